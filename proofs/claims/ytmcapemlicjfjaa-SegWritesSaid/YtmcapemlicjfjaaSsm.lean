/- The document's SameTCP, of two headers that are the same. -/
import Derived.Test.YtmcapemlicjfjaaSd
namespace Go.Proofs.Ytmcapemlicjfjaa
open Go.RowKit
/-- Two headers that came, and two copies of them (whatever options those have). -/
structure Sm (w W : World) (sp dp sq ak rest fl wi ur : Int) (C1 C2 : Array Value) (q r : Nat) : Prop where
  b0 : W.heap[w.heap.size]? = some (.cells C1 28 (0, 0))
  b1 : W.heap[w.heap.size + 1]? = some (.cells C2 28 (0, 0))
  bq : ∃ o m c, W.heap[q]? = some (.cells (tcpc sp dp sq ak rest fl wi ur (.slice o m c)) 28 (0, 0))
  br : ∃ o m c, W.heap[r]? = some (.cells (tcpc sp dp sq ak rest fl wi ur (.slice o m c)) 28 (0, 0))
  below : Below w.heap.size w W
  lq : w.heap.size + 1 + 1 ≤ q
  lr : w.heap.size + 1 + 1 ≤ r
theorem Sm.swap {w W : World} {sp dp sq ak rest fl wi ur : Int} {C1 C2 : Array Value} {q r : Nat} (h : Sm w W sp dp sq ak rest fl wi ur C1 C2 q r) : Sm w W sp dp sq ak rest fl wi ur C1 C2 r q := ⟨h.b0, h.b1, h.br, h.bq, h.below, h.lr, h.lq⟩
theorem Sm.set {w W : World} {sp dp sq ak rest fl wi ur : Int} {C1 C2 : Array Value} {q r : Nat} (h : Sm w W sp dp sq ak rest fl wi ur C1 C2 q r) (O : Option Addr) (n c : Nat) : Sm w (W.setCell ⟨q, 8, none⟩ (.slice O n c)) sp dp sq ak rest fl wi ur C1 C2 q r := by
  obtain ⟨o, m, k, hq⟩ := h.bq
  obtain ⟨o', m', k', hr⟩ := h.br
  have hq' := blk_set hq 8 (.slice O n c)
  have lq := h.lq
  refine ⟨blk_far h.b0 (p := ⟨q, 8, none⟩) (show w.heap.size ≠ q by omega) _, blk_far h.b1 (p := ⟨q, 8, none⟩) (show w.heap.size + 1 ≠ q by omega) _, ⟨O, n, c, hq'⟩, ?_, h.below.setCell (show w.heap.size ≤ q by omega) _, h.lq, h.lr⟩
  by_cases e : q = r
  · rw [← e]
    exact ⟨O, n, c, hq'⟩
  · exact ⟨o', m', k', blk_far hr (p := ⟨q, 8, none⟩) (fun e' => e e'.symm) _⟩
theorem Sm.mk2 {w W : World} {sp dp sq ak rest fl wi ur : Int} {O1 O2 : Option Addr} {on c1 c2 : Nat} {q r : Nat} (b0 : W.heap[w.heap.size]? = some (.cells (tcpc sp dp sq ak rest fl wi ur (.slice O1 on c1)) 28 (0, 0))) (b1 : W.heap[w.heap.size + 1]? = some (.cells (tcpc sp dp sq ak rest fl wi ur (.slice O2 on c2)) 28 (0, 0)))
    (hq : W.heap[q]? = some (.cells tcpz 28 (0, 0))) (hr : W.heap[r]? = some (.cells tcpz 28 (0, 0))) (hb : Below w.heap.size w W) (lq : w.heap.size + 1 + 1 ≤ q) (lr : w.heap.size + 1 + 1 ≤ r) :
    Sm w ((W.setRow q (tcpc sp dp sq ak rest fl wi ur (.slice O1 on c1))).setRow r (tcpc sp dp sq ak rest fl wi ur (.slice O2 on c2))) sp dp sq ak rest fl wi ur (tcpc sp dp sq ak rest fl wi ur (.slice O1 on c1)) (tcpc sp dp sq ak rest fl wi ur (.slice O2 on c2)) q r := by
  have e0 : ∀ k, k ≠ q → (W.setRow q (tcpc sp dp sq ak rest fl wi ur (.slice O1 on c1))).heap[k]? = W.heap[k]? := fun k hk => setRow_other _ q k _ hk
  have e1 : ∀ k, k ≠ r → ((W.setRow q (tcpc sp dp sq ak rest fl wi ur (.slice O1 on c1))).setRow r (tcpc sp dp sq ak rest fl wi ur (.slice O2 on c2))).heap[k]? = (W.setRow q (tcpc sp dp sq ak rest fl wi ur (.slice O1 on c1))).heap[k]? := fun k hk => setRow_other _ r k _ hk
  have hq1 := setRow_heap _ q _ (tcpc sp dp sq ak rest fl wi ur (.slice O1 on c1)) _ _ hq
  have hr1 : ∃ cs, (W.setRow q (tcpc sp dp sq ak rest fl wi ur (.slice O1 on c1))).heap[r]? = some (.cells cs 28 (0, 0)) := by
    by_cases e : r = q
    · rw [e]; exact ⟨_, hq1⟩
    · rw [e0 r e]; exact ⟨_, hr⟩
  obtain ⟨cs, hr1⟩ := hr1
  have hr2 := setRow_heap _ r _ (tcpc sp dp sq ak rest fl wi ur (.slice O2 on c2)) _ _ hr1
  refine ⟨(e1 _ (by omega)).trans ((e0 _ (by omega)).trans b0), (e1 _ (by omega)).trans ((e0 _ (by omega)).trans b1), ?_, ⟨O2, on, c2, hr2⟩, below_setRow (below_setRow hb (by omega) _) (by omega) _, lq, lr⟩
  by_cases e : q = r
  · subst e; exact ⟨O2, on, c2, hr2⟩
  · exact ⟨O1, on, c1, (e1 q e).trans hq1⟩
set_option maxRecDepth 100000 in
set_option maxHeartbeats 4000000 in
theorem rsame_any (sp dp sq ak rest fl wi ur : Int) (O1 O2 : Option Addr) (on c1 c2 : Nat) (f : Nat → Int) (w : World) (h1 : Rd w w.heap.size O1 on f) (h2 : Rd w w.heap.size O2 on f) :
    Calls Try.prog 9 #[.agg (tcpc sp dp sq ak rest fl wi ur (.slice O1 on c1)), .agg (tcpc sp dp sq ak rest fl wi ur (.slice O2 on c2))] w fun e w' => e = .returned (.bool true) ∧ Below w.heap.size w w' := by
  have e1 : (w.alloc (.cells (tcpc sp dp sq ak rest fl wi ur (.slice O1 on c1)) 28)).heap.size = w.heap.size + 1 := by simp
  have b0 : Hid (((w.alloc (.cells (tcpc sp dp sq ak rest fl wi ur (.slice O1 on c1)) 28)).alloc (.cells (tcpc sp dp sq ak rest fl wi ur (.slice O2 on c2)) 28)).heap[w.heap.size]? = some (.cells (tcpc sp dp sq ak rest fl wi ur (.slice O1 on c1)) 28 (0, 0))) := blk_old (heap_alloc_new w _) _
  have b1 : Hid (((w.alloc (.cells (tcpc sp dp sq ak rest fl wi ur (.slice O1 on c1)) 28)).alloc (.cells (tcpc sp dp sq ak rest fl wi ur (.slice O2 on c2)) 28)).heap[w.heap.size + 1]? = some (.cells (tcpc sp dp sq ak rest fl wi ur (.slice O2 on c2)) 28 (0, 0))) := by
    rw [← e1]
    exact heap_alloc_new _ _
  have HB := Lib.hid (below_alloc2 w (.cells (tcpc sp dp sq ak rest fl wi ur (.slice O1 on c1)) 28) (.cells (tcpc sp dp sq ak rest fl wi ur (.slice O2 on c2)) 28))
  have HR1 := Lib.hid h1
  have HR2 := Lib.hid h2
  clear h1 h2 e1
  go_enter Try.func9, Try.ntmps9
  go_upto_region 1 with fail
  change Code.wp _ _ _ _ ((w.alloc (.cells (tcpc sp dp sq ak rest fl wi ur (.slice O1 on c1)) 28)).alloc (.cells (tcpc sp dp sq ak rest fl wi ur (.slice O2 on c2)) 28))
  generalize (w.alloc (.cells (tcpc sp dp sq ak rest fl wi ur (.slice O1 on c1)) 28)).alloc (.cells (tcpc sp dp sq ak rest fl wi ur (.slice O2 on c2)) 28) = u1 at *
  have hs1 : w.heap.size + 1 + 1 ≤ u1.heap.size := lt_heap b1.out
  have HNq : Hid (((u1.drew.alloc (.cells tcpz 28)).alloc (.cells tcpz 28)).heap[u1.heap.size]? = some (.cells tcpz 28 (0, 0))) := blk_old (heap_alloc_new u1.drew _) _
  have e1 : (u1.drew.alloc (.cells tcpz 28)).heap.size = u1.heap.size + 1 := by simp
  have HNr : Hid (((u1.drew.alloc (.cells tcpz 28)).alloc (.cells tcpz 28)).heap[u1.heap.size + 1]? = some (.cells tcpz 28 (0, 0))) := Lib.hid (by rw [← e1]; exact heap_alloc_new _ _)
  have hW2 : ((u1.drew.alloc (.cells tcpz 28)).alloc (.cells tcpz 28)).heap[w.heap.size]? = some (.cells (tcpc sp dp sq ak rest fl wi ur (.slice O1 on c1)) 28 (0, 0)) ∧ ((u1.drew.alloc (.cells tcpz 28)).alloc (.cells tcpz 28)).heap[w.heap.size + 1]? = some (.cells (tcpc sp dp sq ak rest fl wi ur (.slice O2 on c2)) 28 (0, 0)) ∧ Below w.heap.size w ((u1.drew.alloc (.cells tcpz 28)).alloc (.cells tcpz 28)) := ⟨blk_old (blk_old (w := u1.drew) b0.out _) _, blk_old (blk_old (w := u1.drew) b1.out _) _, HB.out.trans (((Below.refl _ u1).drew.alloc HB.out.size _).alloc (Nat.le_trans HB.out.size (alloc_le u1.drew _)) _)⟩
  have HW2 := Lib.hid hW2
  clear e1 hW2
  refine wp_region_held_drew (S := fun w' => w'.heap[w.heap.size]? = some (.cells (tcpc sp dp sq ak rest fl wi ur (.slice O1 on c1)) 28 (0, 0)) ∧ w'.heap[w.heap.size + 1]? = some (.cells (tcpc sp dp sq ak rest fl wi ur (.slice O2 on c2)) 28 (0, 0))) (by kernel_rfl) ⟨b0.out, b1.out⟩ (fun hHeld => ?_)
  clear b0 b1 HB
  refine wpAnyH_take (i := 0) (oi := { dst := some 7, op := Op.load 28 (Operand.tmp 2), type := 28, pos := "ref.go:119", after := #[], guard := none }) (v := .agg (tcpc sp dp sq ak rest fl wi ur (.slice O1 on c1))) rfl (by kernel_rfl) (by kernel_rfl) (by kernel_rfl) (fun _ _ _ h => h) (Or.inl ⟨by rfl, ?_⟩) hHeld ?_
  · intro w' hSw
    simp [execOp, Act.eval, Instr.loadAt, Instr.sureAddr, Sem.run_bind, Sem.run_pure, Result.andThen_ok, run_loadVar_row w' (w.heap.size) 28 28 (tcpc sp dp sq ak rest fl wi ur (.slice O1 on c1)) (0, 0) _ hSw.1 Try.underlying28 rfl (by kernel_rfl)]
  try simp only [Act.put, List.setIfInBounds_toArray, List.set_cons_zero, List.set_cons_succ]
  refine wpAnyH_take (i := 1) (oi := { dst := some 8, op := Op.load 28 (Operand.tmp 3), type := 28, pos := "ref.go:119", after := #[{ on := 4, ground := Ground.gcOnly Departure.lateStores }], guard := none }) (v := .agg (tcpc sp dp sq ak rest fl wi ur (.slice O2 on c2))) rfl (by kernel_rfl) (by kernel_rfl) (by kernel_rfl) (fun _ _ _ h => h) (Or.inl ⟨by rfl, ?_⟩) hHeld ?_
  · intro w' hSw
    simp [execOp, Act.eval, Instr.loadAt, Instr.sureAddr, Sem.run_bind, Sem.run_pure, Result.andThen_ok, run_loadVar_row w' (w.heap.size + 1) 28 28 (tcpc sp dp sq ak rest fl wi ur (.slice O2 on c2)) (0, 0) _ hSw.2 Try.underlying28 rfl (by kernel_rfl)]
  try simp only [Act.put, List.setIfInBounds_toArray, List.set_cons_zero, List.set_cons_succ]
  refine wpAnyH_ready (rs := [2, 3]) (by kernel_rfl) (by simp) ?_
  refine AllReadyH.cons (o := { dst := some 5, op := Op.alloc 28, type := 0, pos := "ref.go:119", after := #[], guard := none }) rfl (fun K hK => ?_) ?_
  · go_simp
    refine hK.out _ _ (⟨blk_old hHeld.1 _, blk_old hHeld.2 _⟩) (fun hHeld => ?_)
    clear hK K
    try simp only [Act.put, List.setIfInBounds_toArray, List.set_cons_zero, List.set_cons_succ]
    refine wpAnyH_ready (rs := [3]) (by kernel_rfl) (by simp) ?_
    refine AllReadyH.cons (o := { dst := some 6, op := Op.alloc 28, type := 0, pos := "ref.go:119", after := #[], guard := none }) rfl (fun K hK => ?_) ?_
    · go_simp
      refine hK.out _ _ (⟨blk_old hHeld.1 _, blk_old hHeld.2 _⟩) (fun hHeld => ?_)
      clear hK K
      try simp only [Act.put, List.setIfInBounds_toArray, List.set_cons_zero, List.set_cons_succ]
      have hW2 := HW2.out
      clear HW2
      refine wpAnyH_ready (rs := [4]) (by kernel_rfl) (by simp) ?_
      refine AllReadyH.cons (o := { dst := none, op := Op.store 28 (Operand.tmp 5) (Operand.tmp 7), type := 0, pos := "ref.go:119", after := #[{ on := 2, ground := Ground.data }, { on := 0, ground := Ground.data }, { on := 0, ground := Ground.phase }, { on := 1, ground := Ground.textOnly Departure.lateStores }, { on := 2, ground := Ground.phase }, { on := 3, ground := Ground.phase }], guard := none }) rfl (fun K hK => ?_) ?_
      · rw [if_pos (by rfl)]
        refine wp_store_row 28 (.tmp 5) (.tmp 7) rfl (u1.heap.size) (tcpc sp dp sq ak rest fl wi ur (.slice O1 on c1)) rfl rfl 28 tcpz HNq.out (by kernel_rfl) rfl (tcp_one ..) ?_
        refine hK.out _ _ (⟨(setRow_other _ (u1.heap.size) _ _ (by omega)).trans hHeld.1, (setRow_other _ (u1.heap.size) _ _ (by omega)).trans hHeld.2⟩) (fun hHeld => ?_)
        clear hK K
        try simp only [Act.put, List.setIfInBounds_toArray, List.set_cons_zero, List.set_cons_succ]
        refine wpAnyH_ready (rs := [5]) (by kernel_rfl) (by simp) ?_
        refine AllReadyH.cons (o := { dst := none, op := Op.store 28 (Operand.tmp 6) (Operand.tmp 8), type := 0, pos := "ref.go:119", after := #[{ on := 3, ground := Ground.data }, { on := 1, ground := Ground.data }, { on := 4, ground := Ground.chain }, { on := 0, ground := Ground.phase }, { on := 1, ground := Ground.phase }, { on := 2, ground := Ground.phase }, { on := 3, ground := Ground.phase }, { on := 4, ground := Ground.phase }], guard := none }) rfl (fun K hK => ?_) ?_
        · rw [if_pos (by rfl)]
          refine wp_store_row 28 (.tmp 6) (.tmp 8) rfl (u1.heap.size + 1) (tcpc sp dp sq ak rest fl wi ur (.slice O2 on c2)) rfl rfl 28 tcpz ((setRow_other _ (u1.heap.size) (u1.heap.size + 1) _ (by omega)).trans HNr.out) (by kernel_rfl) rfl (tcp_one ..) ?_
          refine hK.out _ _ (⟨(setRow_other _ (u1.heap.size + 1) _ _ (by omega)).trans hHeld.1, (setRow_other _ (u1.heap.size + 1) _ _ (by omega)).trans hHeld.2⟩) (fun hHeld => ?_)
          clear hK K
          try simp only [Act.put, List.setIfInBounds_toArray, List.set_cons_zero, List.set_cons_succ]
          refine wpAnyH_done (by kernel_rfl) ?_ _
          have HM2 : Hid (Sm w ((((u1.drew.alloc (.cells tcpz 28)).alloc (.cells tcpz 28)).setRow (u1.heap.size) (tcpc sp dp sq ak rest fl wi ur (.slice O1 on c1))).setRow (u1.heap.size + 1) (tcpc sp dp sq ak rest fl wi ur (.slice O2 on c2))) sp dp sq ak rest fl wi ur (tcpc sp dp sq ak rest fl wi ur (.slice O1 on c1)) (tcpc sp dp sq ak rest fl wi ur (.slice O2 on c2)) (u1.heap.size) (u1.heap.size + 1)) := Sm.mk2 hW2.1 hW2.2.1 HNq.out HNr.out hW2.2.2 (by omega) (by omega)
          clear hHeld hW2 HNq HNr
          obtain ⟨q, hq⟩ : ∃ q, q = u1.heap.size := ⟨_, rfl⟩
          obtain ⟨r, hr⟩ : ∃ r, r = u1.heap.size + 1 := ⟨_, rfl⟩
          rw [← hr, ← hq] at HM2 ⊢
          clear hq hr hs1
          change Exit.then _ _ _ _ ((((u1.drew.alloc (.cells tcpz 28)).alloc (.cells tcpz 28)).setRow q (tcpc sp dp sq ak rest fl wi ur (.slice O1 on c1))).setRow r (tcpc sp dp sq ak rest fl wi ur (.slice O2 on c2)))
          generalize (((u1.drew.alloc (.cells tcpz 28)).alloc (.cells tcpz 28)).setRow q (tcpc sp dp sq ak rest fl wi ur (.slice O1 on c1))).setRow r (tcpc sp dp sq ak rest fl wi ur (.slice O2 on c2)) = u3 at *
          obtain ⟨o, m, c, hq⟩ := HM2.out.bq
          have x8 : u3.cell? ⟨q, 8, none⟩ = some (.slice o m c) := blk_cell hq 8
          have y8 := blk_free hq 8
          clear hq
          go_upto_region 3 with fail
          have HM3 : Hid (Sm w (u3.setCell ⟨q, 8, none⟩ (.slice none 0 0)) sp dp sq ak rest fl wi ur (tcpc sp dp sq ak rest fl wi ur (.slice O1 on c1)) (tcpc sp dp sq ak rest fl wi ur (.slice O2 on c2)) q r) := HM2.out.set none 0 0
          clear x8 y8 HM2
          generalize u3.setCell ⟨q, 8, none⟩ (.slice none 0 0) = u4 at *
          obtain ⟨o', m', c', hr⟩ := HM3.out.br
          have x8 : u4.cell? ⟨r, 8, none⟩ = some (.slice o' m' c') := blk_cell hr 8
          have y8 := blk_free hr 8
          clear hr
          go_upto_region 4 with fail
          have HM4 : Hid (Sm w (u4.setCell ⟨r, 8, none⟩ (.slice none 0 0)) sp dp sq ak rest fl wi ur (tcpc sp dp sq ak rest fl wi ur (.slice O1 on c1)) (tcpc sp dp sq ak rest fl wi ur (.slice O2 on c2)) r q) := HM3.out.swap.set none 0 0
          clear x8 y8 HM3
          generalize u4.setCell ⟨r, 8, none⟩ (.slice none 0 0) = u5 at *
          have hv1 := run_convert_rd (P := Try.prog) (HR1.out.keep HM4.out.below) 23 5 9 c1 Try.underlying23 Try.underlying5 Try.underlying9
          have hv2 := run_convert_rd (P := Try.prog) (HR2.out.keep HM4.out.below) 23 5 9 c2 Try.underlying23 Try.underlying5 Try.underlying9
          generalize strOfNums (nums on f) = S at *
          have a8 : u5.cell? ⟨w.heap.size, 8, none⟩ = some (.slice O1 on c1) := blk_cell HM4.out.b0 8
          have k8 : u5.cell? ⟨w.heap.size + 1, 8, none⟩ = some (.slice O2 on c2) := blk_cell HM4.out.b1 8
          obtain ⟨o1, m1, d1, hq⟩ := HM4.out.br
          obtain ⟨o2, m2, d2, hr⟩ := HM4.out.bq
          have q0 : u5.cell? ⟨q, 0, none⟩ = some (.int .u16 sp) := blk_cell hq 0
          have r0 : u5.cell? ⟨r, 0, none⟩ = some (.int .u16 sp) := blk_cell hr 0
          have q1 : u5.cell? ⟨q, 1, none⟩ = some (.int .u16 dp) := blk_cell hq 1
          have r1 : u5.cell? ⟨r, 1, none⟩ = some (.int .u16 dp) := blk_cell hr 1
          have q2 : u5.cell? ⟨q, 2, none⟩ = some (.int .u32 sq) := blk_cell hq 2
          have r2 : u5.cell? ⟨r, 2, none⟩ = some (.int .u32 sq) := blk_cell hr 2
          have q3 : u5.cell? ⟨q, 3, none⟩ = some (.int .u32 ak) := blk_cell hq 3
          have r3 : u5.cell? ⟨r, 3, none⟩ = some (.int .u32 ak) := blk_cell hr 3
          have q4 : u5.cell? ⟨q, 4, none⟩ = some (.int .u8 rest) := blk_cell hq 4
          have r4 : u5.cell? ⟨r, 4, none⟩ = some (.int .u8 rest) := blk_cell hr 4
          have q5 : u5.cell? ⟨q, 5, none⟩ = some (.int .u8 fl) := blk_cell hq 5
          have r5 : u5.cell? ⟨r, 5, none⟩ = some (.int .u8 fl) := blk_cell hr 5
          have q6 : u5.cell? ⟨q, 6, none⟩ = some (.int .u16 wi) := blk_cell hq 6
          have r6 : u5.cell? ⟨r, 6, none⟩ = some (.int .u16 wi) := blk_cell hr 6
          have q7 : u5.cell? ⟨q, 7, none⟩ = some (.int .u16 ur) := blk_cell hq 7
          have r7 : u5.cell? ⟨r, 7, none⟩ = some (.int .u16 ur) := blk_cell hr 7
          have HBL := Lib.hid HM4.out.below
          clear hq hr HM4
          go_wp2_with fail
          go_ret
          exact ⟨rfl, HBL.out⟩
        exact AllReadyH.nil
      exact AllReadyH.nil
    exact AllReadyH.nil
  refine AllReadyH.cons (o := { dst := some 6, op := Op.alloc 28, type := 0, pos := "ref.go:119", after := #[], guard := none }) rfl (fun K hK => ?_) ?_
  · go_simp
    refine hK.out _ _ (⟨blk_old hHeld.1 _, blk_old hHeld.2 _⟩) (fun hHeld => ?_)
    clear hK K
    try simp only [Act.put, List.setIfInBounds_toArray, List.set_cons_zero, List.set_cons_succ]
    refine wpAnyH_ready (rs := [2]) (by kernel_rfl) (by simp) ?_
    refine AllReadyH.cons (o := { dst := some 5, op := Op.alloc 28, type := 0, pos := "ref.go:119", after := #[], guard := none }) rfl (fun K hK => ?_) ?_
    · go_simp
      refine hK.out _ _ (⟨blk_old hHeld.1 _, blk_old hHeld.2 _⟩) (fun hHeld => ?_)
      clear hK K
      try simp only [Act.put, List.setIfInBounds_toArray, List.set_cons_zero, List.set_cons_succ]
      have hW2 := HW2.out
      clear HW2
      refine wpAnyH_ready (rs := [4]) (by kernel_rfl) (by simp) ?_
      refine AllReadyH.cons (o := { dst := none, op := Op.store 28 (Operand.tmp 5) (Operand.tmp 7), type := 0, pos := "ref.go:119", after := #[{ on := 2, ground := Ground.data }, { on := 0, ground := Ground.data }, { on := 0, ground := Ground.phase }, { on := 1, ground := Ground.textOnly Departure.lateStores }, { on := 2, ground := Ground.phase }, { on := 3, ground := Ground.phase }], guard := none }) rfl (fun K hK => ?_) ?_
      · rw [if_pos (by rfl)]
        refine wp_store_row 28 (.tmp 5) (.tmp 7) rfl (u1.heap.size + 1) (tcpc sp dp sq ak rest fl wi ur (.slice O1 on c1)) rfl rfl 28 tcpz HNr.out (by kernel_rfl) rfl (tcp_one ..) ?_
        refine hK.out _ _ (⟨(setRow_other _ (u1.heap.size + 1) _ _ (by omega)).trans hHeld.1, (setRow_other _ (u1.heap.size + 1) _ _ (by omega)).trans hHeld.2⟩) (fun hHeld => ?_)
        clear hK K
        try simp only [Act.put, List.setIfInBounds_toArray, List.set_cons_zero, List.set_cons_succ]
        refine wpAnyH_ready (rs := [5]) (by kernel_rfl) (by simp) ?_
        refine AllReadyH.cons (o := { dst := none, op := Op.store 28 (Operand.tmp 6) (Operand.tmp 8), type := 0, pos := "ref.go:119", after := #[{ on := 3, ground := Ground.data }, { on := 1, ground := Ground.data }, { on := 4, ground := Ground.chain }, { on := 0, ground := Ground.phase }, { on := 1, ground := Ground.phase }, { on := 2, ground := Ground.phase }, { on := 3, ground := Ground.phase }, { on := 4, ground := Ground.phase }], guard := none }) rfl (fun K hK => ?_) ?_
        · rw [if_pos (by rfl)]
          refine wp_store_row 28 (.tmp 6) (.tmp 8) rfl (u1.heap.size) (tcpc sp dp sq ak rest fl wi ur (.slice O2 on c2)) rfl rfl 28 tcpz ((setRow_other _ (u1.heap.size + 1) (u1.heap.size) _ (by omega)).trans HNq.out) (by kernel_rfl) rfl (tcp_one ..) ?_
          refine hK.out _ _ (⟨(setRow_other _ (u1.heap.size) _ _ (by omega)).trans hHeld.1, (setRow_other _ (u1.heap.size) _ _ (by omega)).trans hHeld.2⟩) (fun hHeld => ?_)
          clear hK K
          try simp only [Act.put, List.setIfInBounds_toArray, List.set_cons_zero, List.set_cons_succ]
          refine wpAnyH_done (by kernel_rfl) ?_ _
          have HM2 : Hid (Sm w ((((u1.drew.alloc (.cells tcpz 28)).alloc (.cells tcpz 28)).setRow (u1.heap.size + 1) (tcpc sp dp sq ak rest fl wi ur (.slice O1 on c1))).setRow (u1.heap.size) (tcpc sp dp sq ak rest fl wi ur (.slice O2 on c2))) sp dp sq ak rest fl wi ur (tcpc sp dp sq ak rest fl wi ur (.slice O1 on c1)) (tcpc sp dp sq ak rest fl wi ur (.slice O2 on c2)) (u1.heap.size + 1) (u1.heap.size)) := Sm.mk2 hW2.1 hW2.2.1 HNr.out HNq.out hW2.2.2 (by omega) (by omega)
          clear hHeld hW2 HNq HNr
          obtain ⟨q, hq⟩ : ∃ q, q = u1.heap.size + 1 := ⟨_, rfl⟩
          obtain ⟨r, hr⟩ : ∃ r, r = u1.heap.size := ⟨_, rfl⟩
          rw [← hq, ← hr] at HM2 ⊢
          clear hq hr hs1
          change Exit.then _ _ _ _ ((((u1.drew.alloc (.cells tcpz 28)).alloc (.cells tcpz 28)).setRow q (tcpc sp dp sq ak rest fl wi ur (.slice O1 on c1))).setRow r (tcpc sp dp sq ak rest fl wi ur (.slice O2 on c2)))
          generalize (((u1.drew.alloc (.cells tcpz 28)).alloc (.cells tcpz 28)).setRow q (tcpc sp dp sq ak rest fl wi ur (.slice O1 on c1))).setRow r (tcpc sp dp sq ak rest fl wi ur (.slice O2 on c2)) = u3 at *
          obtain ⟨o, m, c, hq⟩ := HM2.out.bq
          have x8 : u3.cell? ⟨q, 8, none⟩ = some (.slice o m c) := blk_cell hq 8
          have y8 := blk_free hq 8
          clear hq
          go_upto_region 3 with fail
          have HM3 : Hid (Sm w (u3.setCell ⟨q, 8, none⟩ (.slice none 0 0)) sp dp sq ak rest fl wi ur (tcpc sp dp sq ak rest fl wi ur (.slice O1 on c1)) (tcpc sp dp sq ak rest fl wi ur (.slice O2 on c2)) q r) := HM2.out.set none 0 0
          clear x8 y8 HM2
          generalize u3.setCell ⟨q, 8, none⟩ (.slice none 0 0) = u4 at *
          obtain ⟨o', m', c', hr⟩ := HM3.out.br
          have x8 : u4.cell? ⟨r, 8, none⟩ = some (.slice o' m' c') := blk_cell hr 8
          have y8 := blk_free hr 8
          clear hr
          go_upto_region 4 with fail
          have HM4 : Hid (Sm w (u4.setCell ⟨r, 8, none⟩ (.slice none 0 0)) sp dp sq ak rest fl wi ur (tcpc sp dp sq ak rest fl wi ur (.slice O1 on c1)) (tcpc sp dp sq ak rest fl wi ur (.slice O2 on c2)) r q) := HM3.out.swap.set none 0 0
          clear x8 y8 HM3
          generalize u4.setCell ⟨r, 8, none⟩ (.slice none 0 0) = u5 at *
          have hv1 := run_convert_rd (P := Try.prog) (HR1.out.keep HM4.out.below) 23 5 9 c1 Try.underlying23 Try.underlying5 Try.underlying9
          have hv2 := run_convert_rd (P := Try.prog) (HR2.out.keep HM4.out.below) 23 5 9 c2 Try.underlying23 Try.underlying5 Try.underlying9
          generalize strOfNums (nums on f) = S at *
          have a8 : u5.cell? ⟨w.heap.size, 8, none⟩ = some (.slice O1 on c1) := blk_cell HM4.out.b0 8
          have k8 : u5.cell? ⟨w.heap.size + 1, 8, none⟩ = some (.slice O2 on c2) := blk_cell HM4.out.b1 8
          obtain ⟨o1, m1, d1, hq⟩ := HM4.out.br
          obtain ⟨o2, m2, d2, hr⟩ := HM4.out.bq
          have q0 : u5.cell? ⟨q, 0, none⟩ = some (.int .u16 sp) := blk_cell hq 0
          have r0 : u5.cell? ⟨r, 0, none⟩ = some (.int .u16 sp) := blk_cell hr 0
          have q1 : u5.cell? ⟨q, 1, none⟩ = some (.int .u16 dp) := blk_cell hq 1
          have r1 : u5.cell? ⟨r, 1, none⟩ = some (.int .u16 dp) := blk_cell hr 1
          have q2 : u5.cell? ⟨q, 2, none⟩ = some (.int .u32 sq) := blk_cell hq 2
          have r2 : u5.cell? ⟨r, 2, none⟩ = some (.int .u32 sq) := blk_cell hr 2
          have q3 : u5.cell? ⟨q, 3, none⟩ = some (.int .u32 ak) := blk_cell hq 3
          have r3 : u5.cell? ⟨r, 3, none⟩ = some (.int .u32 ak) := blk_cell hr 3
          have q4 : u5.cell? ⟨q, 4, none⟩ = some (.int .u8 rest) := blk_cell hq 4
          have r4 : u5.cell? ⟨r, 4, none⟩ = some (.int .u8 rest) := blk_cell hr 4
          have q5 : u5.cell? ⟨q, 5, none⟩ = some (.int .u8 fl) := blk_cell hq 5
          have r5 : u5.cell? ⟨r, 5, none⟩ = some (.int .u8 fl) := blk_cell hr 5
          have q6 : u5.cell? ⟨q, 6, none⟩ = some (.int .u16 wi) := blk_cell hq 6
          have r6 : u5.cell? ⟨r, 6, none⟩ = some (.int .u16 wi) := blk_cell hr 6
          have q7 : u5.cell? ⟨q, 7, none⟩ = some (.int .u16 ur) := blk_cell hq 7
          have r7 : u5.cell? ⟨r, 7, none⟩ = some (.int .u16 ur) := blk_cell hr 7
          have HBL := Lib.hid HM4.out.below
          clear hq hr HM4
          go_wp2_with fail
          go_ret
          exact ⟨rfl, HBL.out⟩
        exact AllReadyH.nil
      exact AllReadyH.nil
    exact AllReadyH.nil
  exact AllReadyH.nil
end Go.Proofs.Ytmcapemlicjfjaa
