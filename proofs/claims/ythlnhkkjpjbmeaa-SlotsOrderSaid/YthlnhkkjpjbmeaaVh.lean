/- Stage 10: the landed leave: a walk ends. -/
import Derived.LaidEqlPtr
import Derived.Test.YthlnhkkjpjbmeaaVg
namespace Go.Proofs.Ythlnhkkjpjbmeaa
set_option maxRecDepth 100000
open Go.RowKit Go.Shelf
/-- 'clear(s)' over one pointer. -/
theorem wpList_clearP {P : Program} {ops : Array Oper} {rest : List Oper} {op : Oper} {a : Act} {w : World} {Q : Exit → Act → World → Prop} (hw : Region.wanted op (yielded ops a.tmps) = true) (x : Operand) (t : TypeId)
    (hop : op.op = .call { callee := .builtin .clear, args := #[x], argTypes := #[t] }) (e : TypeId) (ht : P.underlying t = some (.slice e)) (hv : ∀ w, (zeroValue e).run P w = .ok (.pointer none) w) (b c : Nat)
    (hx : a.eval x = .slice (some ⟨b, 0, none⟩) 1 c) (hc : (w.cell? ⟨b, 0, none⟩).isSome = true) (hf : w.frozen? ⟨b, 0, none⟩ = false) (h : wpList P ops Q rest (a.put op.dst (.tuple #[])) (w.setCell ⟨b, 0, none⟩ (.pointer none))) : wpList P ops Q (op :: rest) a w := by
  have hrun := Lib.run_clear_slice (P := P) w t e op.type (.pointer none) ht hv rfl rfl b 0 1 c Nat.one_pos (fun j hj => by rw [show j = 0 by omega]; exact hc) (fun j hj => by rw [show j = 0 by omega]; exact hf)
  refine BigFrame.wpList_want hw fun K hK => ?_
  unfold Oper.wp execOp
  simp only [hop, resolve, invoke, builtin, Sem.run_bind, Sem.run_pure, Result.andThen_ok, List.map_toArray, List.map_cons, List.map_nil, hx, hrun]
  exact hK _ _ h
theorem Try.infoWK : (Try.prog.info? 70).map (fun i => (i.zero, i.size, i.bytes)) = some (some (.agg #[.int .i64 0]), 1, 8) := by kernel_rfl
theorem pleave1 (w : World) (bx b : Nat) (hx : w.cell? ⟨bx, 0, none⟩ = some (.pointer (some ⟨b, 0, none⟩))) : Calls Try.prog 37 #[.pointer (some ⟨b, 0, none⟩), .pointer (some ⟨bx, 0, none⟩)] w (ret (.bool true) w) := by
  have hpe : ∀ (W : World), (binOp .eql 68 (.pointer (some ⟨b, 0, none⟩)) (.pointer (some ⟨b, 0, none⟩))).run Try.prog W = .ok (.bool true) W := fun W => by
    obtain ⟨j, hj, _⟩ := info_parts Try.infoWK
    exact run_eql_ptr_same _ _ Try.underlying68 hj
  go_enter Try.func37, Try.ntmps37
  go_wp2_with fail
  go_ret
  exact ⟨rfl, Below.refl _ _⟩
theorem pindex (w : World) (bx b C c : Nat) (_hc1 : 1 ≤ c) (_hc9 : c ≤ 9223372036854775807) (hx : w.cell? ⟨bx, 0, none⟩ = some (.pointer (some ⟨b, 0, none⟩))) (hc : w.cell? ⟨C, 0, none⟩ = some (.pointer (some ⟨b, 0, none⟩))) :
    Calls Try.prog 39 #[.slice (some ⟨C, 0, none⟩) 1 c, .func (.func 37) #[] #[.pointer (some ⟨bx, 0, none⟩)]] w (ret (.int .i64 0) w) := by
  have HL := Lib.hid (pleave1 w bx b hx)
  have hzz : ∀ (W : World), (binOp .lss 3 (.int .i64 0) (.int .i64 ((1 : Nat) : Int))).run Try.prog W = .ok (.bool true) W := fun W => by kernel_rfl
  go_enter Try.func39, Try.ntmps39
  go_wp2_with fail
  refine wp_loop_rounds 1 ?_
  rw [rounds_succ]
  go_wp2_with (first
    | (go_at_call 37
       refine HL.out.mono ?_
       rintro e u ⟨rfl, hb⟩
       have HB := Lib.hid hb
       clear hb))
  go_ret
  exact ⟨rfl, HB.out⟩
theorem pdelete (w : World) (bx b C c : Nat) (hc1 : 1 ≤ c) (hc9 : c ≤ 9223372036854775807) (hx : w.cell? ⟨bx, 0, none⟩ = some (.pointer (some ⟨b, 0, none⟩))) (hc : w.cell? ⟨C, 0, none⟩ = some (.pointer (some ⟨b, 0, none⟩))) (hf : w.frozen? ⟨C, 0, none⟩ = false) (hCl : C < w.heap.size) :
    Calls Try.prog 36 #[.slice (some ⟨C, 0, none⟩) 1 c, .func (.func 37) #[] #[.pointer (some ⟨bx, 0, none⟩)]] w fun e w' => e = .returned (.slice (some ⟨C, 0, none⟩) 0 c) ∧ ∃ u, Below w.heap.size w u ∧ w' = u.setCell ⟨C, 0, none⟩ (.pointer none) := by
  have HI := Lib.hid (pindex w bx b C c hc1 hc9 hx hc)
  have HC := Lib.hid hc
  have HF := Lib.hid hf
  have HCL := Lib.hid hCl
  have hzz : ∀ (W : World), (binOp .lss 3 (.int .i64 1) (.int .i64 ((1 : Nat) : Int))).run Try.prog W = .ok (.bool false) W := fun W => by kernel_rfl
  have zw : IntKind.i64.wrap ((0 : Int) + 1) = 1 := by decide
  have hz : ∀ W, (zeroValue 68).run Try.prog W = .ok (.pointer none) W := fun W => by kernel_rfl
  clear hx hc hf
  go_enter Try.func36, Try.ntmps36
  go_wp2_with (first
    | (go_at_call 39
       refine HI.out.mono ?_
       rintro e u ⟨rfl, hb⟩
       have HB := Lib.hid hb
       have hcu : u.cell? ⟨C, 0, none⟩ = some (.pointer (some ⟨b, 0, none⟩)) := (hb.cell (p := ⟨C, 0, none⟩) HCL.out).trans HC.out
       have hfu : u.frozen? ⟨C, 0, none⟩ = false := (hb.frozen (p := ⟨C, 0, none⟩) HCL.out).trans HF.out
       clear hb))
  refine wp_loop_rounds 1 ?_
  rw [rounds_succ]
  go_wp2_with (first
    | (refine wpList_clearP rfl (.tmp 38) 51 rfl 68 Try.underlying51 hz C c rfl (by rw [hcu]; rfl) hfu ?_))
  go_ret
  exact ⟨rfl, u, HB.out, rfl⟩
theorem OwnC.zero {w : World} {base size : Nat} {e : TypeId} {g n c : Nat} {f : Nat → Value} (h : OwnC w base e size (some ⟨g, 0, none⟩) n c f) (f' : Nat → Value) : OwnC w base e size (some ⟨g, 0, none⟩) 0 c f' := by
  refine ⟨by simp [vals], ?_⟩
  rcases h.2 with ⟨hh, _⟩ | ⟨g', cap, cur, hv, hg, hh, h1, h2, h3, h4⟩
  · cases hh
  · injection hv with a b c'
    exact .inr ⟨g', cap, cur, by rw [a, c'], hg, hh, Nat.zero_le _, h2, h3, by simp [vals]⟩
section
variable {w : World} {p A cA B cB m n : Nat} {V : Option Addr} {cV : Nat} {fl : Nat → Int} {pv nx sz : Nat → Nat} {F : Nat → Prop}
theorem SX.v1 {w : World} {p A cA B cB m n C : Nat} {cV : Nat} {fl : Nat → Int} {pv nx sz : Nat → Nat} {F : Nat → Prop} {x : Nat × Nat} (h : SX w p A cA B cB m n (some ⟨C, 0, none⟩) cV fl pv nx sz (some x) F) : w.cell? ⟨C, 0, none⟩ = some (.pointer (some ⟨x.1, 0, none⟩)) ∧ w.frozen? ⟨C, 0, none⟩ = false := by
  obtain ⟨g, e, h1, _, _, _, h2⟩ := h.v0
  injection e with e
  injection e with e
  subst e
  exact ⟨h1, h2 0⟩
/-- The walks' slice in its field, and the block behind it, turned. -/
theorem SX.setV {wk wk' : Option (Nat × Nat)} {V' : Option Addr} {cV' : Nat} {w' : World} (h : SX w p A cA B cB m n V cV fl pv nx sz wk F) (hV : ∀ g, V' = some ⟨g, 0, none⟩ → F g) (hb : ∀ k, k ≠ p → (∀ g, V' = some ⟨g, 0, none⟩ → k ≠ g) → k < w.heap.size → w'.heap[k]? = w.heap[k]?) (hs : w.heap.size ≤ w'.heap.size)
    (hA : ∀ g, V' = some ⟨g, 0, none⟩ → A ≠ g ∧ B ≠ g)
    (hp : w'.heap[p]? = some (.cells #[.slice (some ⟨A, 0, none⟩) (m + n) cA, .slice (some ⟨B, 0, none⟩) n cB, .slice V' (wkn wk') cV'] 53 (0, 0)))
    (hr : OwnC w' 0 68 1 V' (wkn wk') cV' (wkf wk')) (hw : ∀ x, wk' = some x → w'.heap[x.1]? = some (.cells #[.int .i64 (x.2 : Int)] 70 (0, 0)) ∧ F x.1) : SX w' p A cA B cB m n V' cV' fl pv nx sz wk' F :=
  ⟨hp, h.rowA.block (hb A h.pA.symm (fun g e => (hA g e).1) (h.old A h.mA)), h.rowB.block (hb B h.pB.symm (fun g e => (hA g e).2) (h.old B h.mB)), hr, hw, h.mp, h.mA, h.mB, hV, fun k hk => Nat.lt_of_lt_of_le (h.old k hk) hs, h.pos, h.mpos⟩
set_option maxHeartbeats 1000000 in
theorem pleaveX {x : Nat × Nat} {u : FrameMode} {k : Nat} (h : SX w p A cA B cB m n V cV fl pv nx sz (some x) F) :
    CallsDIn Fence.wide k Try.prog 34 #[.pointer (some ⟨p, 0, none⟩), .pointer (some ⟨x.1, 0, none⟩)] u w fun e u' w' => u' = u ∧ e = .returned (.tuple #[]) ∧ SX w' p A cA B cB m n V cV fl pv nx sz none F ∧ Kept F w w' := by
  obtain ⟨C, rfl, xc, hc1, hc9, hFC, hfz⟩ := h.v0
  obtain ⟨b, at_⟩ := x
  have HX := Lib.hid h
  have HB0 : Hid (Below w.heap.size w (w.alloc (.cells #[.pointer (some ⟨b, 0, none⟩)] 68))) := Lib.hid (below_alloc w _)
  have HX0 := Lib.hid (h.step HB0.out)
  have HM0 : Hid ((w.alloc (.cells #[.pointer (some ⟨b, 0, none⟩)] 68)).heap[w.heap.size]? = some (.cells #[.pointer (some ⟨b, 0, none⟩)] 68 (0, 0))) := Lib.hid (heap_alloc_new w _)
  have HCW : Hid (C < w.heap.size) := Lib.hid (h.old C hFC)
  have HFC := Lib.hid hFC
  have hmf : ∀ (fn : Fn) (first cap : Array Value) (w : World), (Instr.makeFunc fn first cap).run Try.prog w = .ok (.func fn first cap) w := fun _ _ _ _ => rfl
  clear h xc hfz hFC
  refine callsDIn_of_wp Try.func34 rfl trivial ?_ rfl
  refine wpIn_wide.2 ?_
  simp only [Try.ntmps34, List.size_toArray, List.length_cons, List.length_nil, Nat.reduceAdd, Nat.reduceSub, Array.replicate_succ, Array.replicate_zero, List.push_toArray, List.append_toArray, List.nil_append, List.cons_append]
  go_upto_region 1 with fail
  change Code.wp _ _ _ _ (w.alloc (.cells #[.pointer (some ⟨b, 0, none⟩)] 68))
  obtain ⟨q, hq⟩ : ∃ q, q = w.heap.size := ⟨_, rfl⟩
  generalize w.alloc (.cells #[.pointer (some ⟨b, 0, none⟩)] 68) = u0 at *
  rw [← hq] at HM0 ⊢
  clear hq
  have x2 : u0.cell? ⟨p, 2, none⟩ = some (.slice (some ⟨C, 0, none⟩) 1 cV) := blk_cell HX0.out.blk 2
  have HV0 := Lib.hid HX0.out.v1
  have HD := Lib.hid (pdelete u0 q b C cV hc1 hc9 (blk_cell HM0.out 0) HV0.out.1 HV0.out.2 (HX0.out.old C HFC.out))
  clear HV0
  go_wp2_with (first
    | (go_at_call 36
       refine HD.out.mono ?_
       rintro e u2 ⟨rfl, u1, hb1, hu2⟩
       have HX1 := Lib.hid (HX0.out.step hb1)
       have HK1 : Hid (Kept F w u1) := Lib.hid (Kept.of_below (HB0.out.trans (hb1.mono HB0.out.size)) _)
       have HU2 := Lib.hid hu2
       have HP2 : Hid (u2.heap[p]? = some (.cells #[.slice (some ⟨A, 0, none⟩) (m + n) cA, .slice (some ⟨B, 0, none⟩) n cB, .slice (some ⟨C, 0, none⟩) 1 cV] 53 (0, 0))) := Lib.hid (by
         rw [hu2]
         exact (Below.heap_setCell u1 ⟨C, 0, none⟩ _ p (HX1.out.pV rfl)).trans HX1.out.blk)
       have y2 : u2.cell? ⟨p, 2, none⟩ = some (.slice (some ⟨C, 0, none⟩) 1 cV) := blk_cell HP2.out 2
       have y3 : u2.frozen? ⟨p, 2, none⟩ = false := blk_free HP2.out 2
       clear hb1 hu2 x2))
  first
    | go_ret
    | go_end0
  have e0 := HU2.out
  have HX2 := HX1.out
  have hr1 := HX2.rowV.set_ 0 (.pointer none)
  have hr2 : OwnC (u2.setCell ⟨p, 2, none⟩ (.slice (some ⟨C, 0, none⟩) 0 cV)) 0 68 1 (some ⟨C, 0, none⟩) 1 cV (updV (wkf (some (b, at_))) 0 (.pointer none)) := by
    rw [e0]
    exact hr1.block (Below.heap_setCell _ ⟨p, 2, none⟩ _ C (HX2.pV rfl).symm)
  have hsz : (u2.setCell ⟨p, 2, none⟩ (.slice (some ⟨C, 0, none⟩) 0 cV)).heap.size = u1.heap.size := by rw [e0]; simp
  refine ⟨rfl, HX2.setV (wk' := none) (V' := some ⟨C, 0, none⟩) (cV' := cV) (fun g e => ?_) (fun k h1 h2 h3 => ?_) (by omega) (fun g e => ⟨HX2.AV e, HX2.BV e⟩) (blk_set HP2.out 2 _) (hr2.zero _) (fun x e => nomatch e), ?_⟩
  · exact HX2.mV g e
  · rw [e0]
    exact (Below.heap_setCell _ ⟨p, 2, none⟩ _ k h1).trans (Below.heap_setCell u1 ⟨C, 0, none⟩ _ k (h2 C rfl))
  · rw [e0]
    exact (HK1.out.setCell (p := ⟨C, 0, none⟩) (.inl HFC.out) _).setCell (p := ⟨p, 2, none⟩) (.inl HX2.mp) _
end
end Go.Proofs.Ythlnhkkjpjbmeaa
