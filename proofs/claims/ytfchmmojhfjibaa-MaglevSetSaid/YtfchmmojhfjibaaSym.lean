/- Stage 19: slices.Repeat of one number. -/
import Derived.Ground.NamesProg
import Derived.Shelf.Lay
import Derived.Shelf.Bits.Mul64
import Derived.Laws.IdiomCopy
import Derived.Deep.RegionHeld3
import Derived.Test.YtfchmmojhfjibaaMgf
namespace Go.Proofs.Ytfchmmojhfjibaa
set_option maxRecDepth 100000
open Go.RowKit Go.Shelf
shelf_lay Lays.n212 Nm 212 at Try as Try.mulN
theorem own_rep {base : Nat} {e : TypeId} {g n c : Nat} (v : Value) : ∀ (k o : Nat) (w : World) (f : Nat → Value), OwnC w base e 1 (some ⟨g, 0, none⟩) n c f → OwnC (w.setCells g o (List.replicate k v)) base e 1 (some ⟨g, 0, none⟩) n c (fun j => if o ≤ j ∧ j < o + k then v else f j)
  | 0, o, w, f, h => h.same fun j _ => by rw [if_neg (by omega)]
  | k + 1, o, w, f, h => by
    have h1 := own_rep v k (o + 1) _ _ (h.set_ o v)
    refine OwnC.same (h1 : OwnC (w.setCells g o (List.replicate (k + 1) v)) _ _ _ _ _ _ _) fun j _ => ?_
    unfold updV
    by_cases e1 : o + 1 ≤ j ∧ j < o + 1 + k
    · rw [if_pos e1, if_pos (by omega)]
    · rw [if_neg e1]
      by_cases e2 : j = o
      · rw [if_pos e2, if_pos (by omega)]
      · rw [if_neg e2, if_neg (by omega)]
theorem below_rep {base g : Nat} (hb : base ≤ g) (v : Value) : ∀ (k o : Nat) (w : World), Below base w (w.setCells g o (List.replicate k v))
  | 0, _, _ => Below.refl _ _
  | k + 1, o, w => ((Below.refl base w).setCell (p := ⟨g, o, none⟩) hb v).trans (below_rep hb v k (o + 1) (w.setCell ⟨g, o, none⟩ v))
theorem run_copy_rep {w : World} (ty : TypeId) {base g n c : Nat} {f : Nat → Value} (hown : OwnC w base 3 1 (some ⟨g, 0, none⟩) n c f) {o dl dc : Nat} (hfit : o + dl ≤ n) {A : Option Addr} {m c' : Nat} (v : Int) (hr : RdC w w.heap.size A m (fun _ => .int .i64 v)) (hm : 0 < m) (k : Nat) (hk : k = min m dl) : (Builtin.copy_ #[23, 23] ty #[.slice (some ⟨g, o, none⟩) dl dc, .slice A m c']).run Try.prog w = .ok (goInt k) (w.setCells g o (List.replicate k (.int .i64 v))) := by
  rcases hr with h0 | ⟨b, off, rfl, hlt, hc⟩
  · omega
  have hs : (Try.prog.info? 3).map (·.size) = some 1 := by kernel_rfl
  have hrun := run_copy_cells (P := Try.prog) w 23 23 ty 3 g o dl dc ⟨b, off, none⟩ m c' (List.replicate k (.int .i64 v)) Try.underlying23 hs (by rw [List.length_replicate]; exact hk) (fun j x hx => by
      have hj : j < k := by
        rcases Nat.lt_or_ge j k with q | q
        · exact q
        · rw [List.getElem?_eq_none (by simpa using q)] at hx; cases hx
      have hplain : (⟨b, off, none⟩ : Addr).add j = ⟨b, off + j, none⟩ := by unfold Addr.add; split <;> simp_all
      rw [hplain, hc j (by omega)]
      simpa [List.getElem?_replicate, hj] using hx) (fun j hj => by
      have hj' : j < k := by simpa using hj
      obtain ⟨g', e, _, _, hcell, _⟩ := hown.lies (by omega)
      injection e with e
      injection e with e
      subst e
      rw [hcell (o + j) (by omega)]
      rfl) (fun j hj => by
      have hj' : j < k := by simpa using hj
      obtain ⟨g', e, _, _, _, hfro⟩ := hown.lies (by omega)
      injection e with e
      injection e with e
      subst e
      exact hfro (o + j)) (fun x hx => by
      rw [List.eq_of_mem_replicate hx]
      rfl)
  rw [List.length_replicate] at hrun
  exact hrun
/-- A row of the same number copied. -/
theorem wpList_copy_rep {ops : Array Oper} {rest : List Oper} {op : Oper} {a : Act} {w : World} {Q : Exit → Act → World → Prop} (hw : Region.wanted op (yielded ops a.tmps) = true) (d s : Operand)
    (ho : op.op = .call { callee := .builtin .copy, args := #[d, s], argTypes := #[23, 23] }) {base g n c : Nat} {f : Nat → Value} (hown : OwnC w base 3 1 (some ⟨g, 0, none⟩) n c f) (hbg : base ≤ g) {o dl dc : Nat} (hd : a.eval d = .slice (some ⟨g, o, none⟩) dl dc) (hfit : o + dl ≤ n) {A : Option Addr} {m c' : Nat} (hx : a.eval s = .slice A m c') (v : Int) (hr : RdC w w.heap.size A m (fun _ => .int .i64 v)) (hm : 0 < m)
    (h : ∀ w', OwnC w' base 3 1 (some ⟨g, 0, none⟩) n c (fun j => if o ≤ j ∧ j < o + min m dl then .int .i64 v else f j) → Below base w w' → wpList Try.prog ops Q rest (a.put op.dst (.int .i64 ((min m dl : Nat) : Int))) w') : wpList Try.prog ops Q (op :: rest) a w := by
  obtain ⟨k, hk⟩ : ∃ k, k = min m dl := ⟨_, rfl⟩
  rw [← hk] at h
  have hrun := run_copy_rep op.type hown (dc := dc) hfit (c' := c') v hr hm k hk
  refine BigFrame.wpList_want hw fun K hK => ?_
  unfold Oper.wp execOp
  simp only [ho, resolve, invoke, builtin, Sem.run_bind, Sem.run_pure, Result.andThen_ok, List.map_toArray, List.map_cons, List.map_nil, hd, hx, hrun]
  exact hK _ _ (h _ (own_rep _ _ _ _ _ hown) (below_rep hbg _ _ _ _))
/-- .. in a drawn region. -/
theorem step_copy_rep {ops : Array Oper} {op : Oper} {a : Act} {w : World} {K : Act → World → Prop} {Q : Exit → Act → World → Prop} {E : Prop} (hw : Region.wanted op (yielded ops a.tmps) = true) (d s : Operand)
    (ho : op.op = .call { callee := .builtin .copy, args := #[d, s], argTypes := #[23, 23] }) {base g n c : Nat} {f : Nat → Value} (hown : OwnC w base 3 1 (some ⟨g, 0, none⟩) n c f) {o dl dc : Nat} (hd : a.eval d = .slice (some ⟨g, o, none⟩) dl dc) (hfit : o + dl ≤ n) {A : Option Addr} {m c' : Nat} (hx : a.eval s = .slice A m c') (v : Int) (hr : RdC w w.heap.size A m (fun _ => .int .i64 v)) (hm : 0 < m) (k : Nat) (hk : k = min m dl)
    (h : K (a.put op.dst (goInt k)) (w.setCells g o (List.replicate k (.int .i64 v)))) : if Region.wanted op (yielded ops a.tmps) = true then Oper.wp Try.prog op a w K Q else E := by
  rw [if_pos hw]
  have hrun := run_copy_rep op.type hown (dc := dc) hfit (c' := c') v hr hm k hk
  unfold Oper.wp execOp
  simp only [ho, resolve, invoke, builtin, Sem.run_bind, Sem.run_pure, Result.andThen_ok, List.map_toArray, List.map_cons, List.map_nil, hd, hx, hrun]
  exact h
theorem pmul_any (y : Nat) (hy : y < 18446744073709551616) (w : World) : Calls Try.prog 38 #[.int .u64 1, .int .u64 (y : Int)] w fun e w' => e = .returned (.tuple #[.int .u64 0, .int .u64 (y : Int)]) ∧ w' = w := by
  have h := Any.bits_Mul Try.mulN 1 y (by omega) hy w
  rw [show 1 * y / 18446744073709551616 = 0 by omega, show 1 * y % 18446744073709551616 = y by omega] at h
  exact h
set_option maxHeartbeats 2000000 in
theorem prepeat_any (m : Nat) (hm : m ≤ 100000) (hm0 : 0 < m) (A : Option Addr) (c : Nat) (v : Int) (w : World) (hr : RdC w w.heap.size A 1 (fun _ => .int .i64 v)) : Calls Try.prog 26 #[.slice A 1 c, .int .i64 (m : Int)] w fun e w' => ∃ g, e = .returned (.slice (some ⟨g, 0, none⟩) m m) ∧ OwnC w' w.heap.size 3 1 (some ⟨g, 0, none⟩) m m (fun _ => .int .i64 v) ∧ Below w.heap.size w w' := by
  have HM := Lib.hid (pmul_any m (by omega) w)
  obtain ⟨u, hmk, ho, hg⟩ := made_i w m (by omega)
  have HO := Lib.hid ho
  have HB : Hid (Below w.heap.size w u) := Lib.hid ((Below.refl _ _).grown hg (Nat.le_refl _) fun _ h => nomatch h)
  have HR := Lib.hid ((hr.keep HB.out).more HB.out.size)
  obtain ⟨g, hgg⟩ : ∃ g, g = w.heap.size := ⟨_, rfl⟩
  rw [← hgg] at hmk HO
  have HGG := Lib.hid hgg
  have d0 : ¬ (m : Int) < 0 := by omega
  have d1 : ¬ (9223372036854775807 : Int) < (m : Int) := by omega
  clear hgg ho hg hr
  go_enter Try.func26, Try.ntmps26
  go_wp2_with (first
    | (go_at_call 38
       refine HM.out.mono ?_
       rintro e u1 ⟨rfl, hw1⟩
       have hw1 := hw1.symm
       subst hw1)
    | (refine wpList_copy_rep rfl (.tmp 31) (.tmp 32) rfl HO.out (Nat.le_refl _) rfl (Nat.le_of_eq (Nat.zero_add m)) rfl v HR.out (by decide) ?_
       intro u2 ho2 hb2
       rw [show min 1 m = 1 by omega] at ho2 ⊢
       have HO2 := Lib.hid ho2
       have HB2 := Lib.hid hb2
       clear ho2 hb2))
  have HB3 : Hid (Below w.heap.size w u2) := Lib.hid (HB.out.trans (HGG.out ▸ HB2.out))
  clear hmk HO HB2 HR
  go_loopw [8] (fun vi wr => ∃ i : Nat, 1 ≤ i ∧ i ≤ m ∧ vi = .int .i64 (i : Int) ∧ OwnC wr g 3 1 (some ⟨g, 0, none⟩) m m (fun j => if j < i then .int .i64 v else .int .i64 0) ∧ Below w.heap.size w wr) (fun vi _ => m - (intOf vi).toNat)
  case atStart => exact ⟨1, Nat.le_refl _, hm0, rfl, HO2.out.same fun j _ => by
    by_cases q : j < 1
    · rw [if_pos q, if_pos (by omega)]
    · rw [if_neg q, if_neg (by omega)], HB3.out⟩
  case round =>
    obtain ⟨i, hi1, him, rfl, ho, hb⟩ := hrel
    have HO4 := Lib.hid ho
    have HB4 := Lib.hid hb
    clear ho hb HO2 HB3
    by_cases hlt : i < m
    · have l1 : (i : Int) < (m : Int) := by omega
      have i0 : (0 : Int) ≤ (i : Int) := by omega
      have i2 : ((i : Int)).toNat = i := by omega
      have h1 : ∀ W, (Instr.sliceAt 23 (.slice (some ⟨g, 0, none⟩) m m) (some (.int .i64 (i : Int))) none none).run Try.prog W = .ok (.slice (some ⟨g, i, none⟩) (m - i) (m - i)) W := fun W => by
        have i3 : (i : Int) ≤ (m : Int) := by omega
        have i4 : ¬ m = i := by omega
        go_simp
      have h2 : ∀ W, (Instr.sliceAt 23 (.slice (some ⟨g, 0, none⟩) m m) none (some (.int .i64 (i : Int))) none).run Try.prog W = .ok (.slice (some ⟨g, 0, none⟩) i m) W := fun W => by
        have i3 : (i : Int) ≤ (m : Int) := by omega
        have i4 : ¬ m = 0 := by omega
        go_simp
      obtain ⟨k, hk⟩ : ∃ k, k = min i (m - i) := ⟨_, rfl⟩
      have HK := Lib.hid hk
      have hk1 : 1 ≤ k ∧ i + k ≤ m := by omega
      have zk : IntKind.i64.wrap ((i : Int) + (k : Int)) = ((i + k : Nat) : Int) := by rw [IntKind.wrap_i64]; omega
      clear hk
      have HR4 : Hid (RdC wr.drew wr.drew.heap.size (some ⟨g, 0, none⟩) i (fun _ => .int .i64 v)) := Lib.hid (by
        have h := HO4.out.drew.rd
        rw [Nat.mul_one] at h
        exact (h.less (by omega : i ≤ m)).same fun j hj => by rw [if_pos hj])
      have HO5 : Hid (OwnC (wr.drew.setCells g i (List.replicate k (.int .i64 v))) g 3 1 (some ⟨g, 0, none⟩) m m (fun j => if j < i + k then .int .i64 v else .int .i64 0)) := Lib.hid ((own_rep (.int .i64 v) k i wr.drew _ HO4.out.drew).same fun j _ => by
        by_cases q1 : i ≤ j ∧ j < i + k
        · rw [if_pos q1, if_pos q1.2]
        · rw [if_neg q1]
          by_cases q2 : j < i
          · rw [if_pos q2, if_pos (by omega)]
          · rw [if_neg q2, if_neg (by omega)])
      have HB5 : Hid (Below w.heap.size w (wr.drew.setCells g i (List.replicate k (.int .i64 v)))) := Lib.hid (HB4.out.drew.trans (below_rep (Nat.le_of_eq HGG.out.symm) _ _ _ _))
      have mixed : Try.prog.follows Departure.mixedOrders = true := by kernel_rfl
      go_upto_region 9 with fail
      go_region_held3 (fun _ => True) (first | exact trivial)
        (first
        | (refine step_copy_rep rfl (.tmp 41) (.tmp 44) rfl HO4.out.drew rfl (by omega) rfl v HR4.out (by omega) k HK.out ?_))
      clear HO4 HB4 HR4
      generalize wr.drew.setCells g i (List.replicate k (.int .i64 v)) = w5 at *
      go_wp2_with fail
      go_roundw
      case rel => exact ⟨i + k, by omega, hk1.2, by first | rfl | go_num, HO5.out, HB5.out⟩
      case measure => simp [intOf]; omega
    · obtain rfl : i = m := by omega
      go_wp2_with fail
      go_ret
      exact ⟨g, rfl, (HO4.out.le (Nat.le_of_eq HGG.out.symm)).same fun j hj => by rw [if_pos (by omega)], HB4.out⟩
end Go.Proofs.Ytfchmmojhfjibaa
