import Derived.Test.YthjgecdnlpdcdaaM47
import Derived.LoopN
/- Layer 8: the law's examples. -/
namespace Go.Proofs.Ythjgecdnlpdcdaa
set_option maxRecDepth 100000
open Go.RowKit
def ex8 (k : Nat) : Int := if k = 0 then 69 else if k = 1 then 1 else if k = 2 then 2 else 0
theorem ex8_byt : Byt ex8 := fun k => by unfold ex8; split <;> (try split) <;> (try split) <;> omega
theorem wrE_ex (v : Bool) (m : Int) (sp : Int) (h : mayM m sp = true) (hT : wrN v m + 3 ≤ 1646) : wrE v m (fun _ => 0) (fun _ => 0) sp 3 ex8 = 0 := by
  have hz : fourB (fun _ => 0) = true := by unfold fourB; rw [eqs_iff]; intro k _ _; unfold adr; split <;> rfl
  refine wrE_3 ?_ ?_ (by omega)
  · unfold mayO
    rw [hz, h]
    cases v <;> rfl
  · have e : knd ex8 3 = 4 := by decide
    rw [e]
    decide
theorem wrap_ex (v : Bool) (m : Int) (sp : Int) (hsp : 0 ≤ sp ∧ sp ≤ 65535) (h : mayM m sp = true) (hT : wrN v m + 3 ≤ 1646) (N : Nat) (hN : wrN v m + 3 = N) (A : Option Addr) (c : Nat) (W : World) (hr : Rd W W.heap.size A 3 ex8) :
    Calls Try.prog 5 #[.agg (outc v m (fun _ => 0) (fun _ => 0) sp), .slice A 3 c] W fun e w' => ∃ U cu, e = .returned (.tuple #[.slice U N cu, .int .i64 0]) ∧ Below W.heap.size W w' := by
  refine (wrap_any v m (fun _ => 0) (fun _ => 0) zer_byt zer_byt sp hsp A 3 c ex8 ex8_byt (by omega) W hr).mono ?_
  rintro e w' (⟨h1, _⟩ | ⟨_, g, _, U, cu, rfl, _, hb⟩)
  · exact absurd (wrE_ex v m sp h hT) h1
  · exact ⟨U, cu, by rw [hN], hb⟩
def stc (v : Bool) (m sp x : Int) : Array Value := #[.bool v, .int .u8 m, .int .u8 0, .int .u8 0, .int .u8 0, .int .u8 0, .int .u8 0, .int .u8 0, .int .u8 0, .int .u8 0, .int .u8 0, .int .u8 0, .int .u8 0, .int .u8 0, .int .u8 0, .int .u8 0, .int .u8 0, .int .u8 0, .int .u8 0, .int .u8 0, .int .u8 0, .int .u8 0, .int .u8 0, .int .u8 0, .int .u8 0, .int .u8 0, .int .u8 0, .int .u8 0, .int .u8 0, .int .u8 0, .int .u8 0, .int .u8 0, .int .u8 0, .int .u8 0, .int .u16 sp, .int .i64 x]
theorem st_outer {W : World} {g : Nat} {t : TypeId} {v : Bool} {m sp x : Int} (h : W.heap[g]? = some (.cells (stc v m sp x) t (0, 0))) : W.rangeAt g 0 (outc v m (fun _ => 0) (fun _ => 0) sp).toList := by
  refine app_range (t := t) #[] (outc v m (fun _ => 0) (fun _ => 0) sp) #[.int .i64 x] rfl ?_
  rw [h]
  have e : stc v m sp x = #[] ++ (outc v m (fun _ => 0) (fun _ => 0) sp) ++ #[.int .i64 x] := by kernel_rfl
  rw [e]
def st4 : Array Value := #[.bool false, .int .u8 1, .int .u8 0, .int .u8 0, .int .u8 0, .int .u8 0, .int .u8 0, .int .u8 0, .int .u8 0, .int .u8 0, .int .u8 0, .int .u8 0, .int .u8 0, .int .u8 0, .int .u8 0, .int .u8 0, .int .u8 0, .int .u8 0, .int .u8 0, .int .u8 0, .int .u8 0, .int .u8 0, .int .u8 0, .int .u8 0, .int .u8 0, .int .u8 0, .int .u8 0, .int .u8 0, .int .u8 0, .int .u8 0, .int .u8 0, .int .u8 0, .int .u8 0, .int .u8 0, .int .u16 0, .int .i64 20, .bool true, .int .u8 1, .int .u8 0, .int .u8 0, .int .u8 0, .int .u8 0, .int .u8 0, .int .u8 0, .int .u8 0, .int .u8 0, .int .u8 0, .int .u8 0, .int .u8 0, .int .u8 0, .int .u8 0, .int .u8 0, .int .u8 0, .int .u8 0, .int .u8 0, .int .u8 0, .int .u8 0, .int .u8 0, .int .u8 0, .int .u8 0, .int .u8 0, .int .u8 0, .int .u8 0, .int .u8 0, .int .u8 0, .int .u8 0, .int .u8 0, .int .u8 0, .int .u8 0, .int .u8 0, .int .u16 0, .int .i64 40, .bool false, .int .u8 2, .int .u8 0, .int .u8 0, .int .u8 0, .int .u8 0, .int .u8 0, .int .u8 0, .int .u8 0, .int .u8 0, .int .u8 0, .int .u8 0, .int .u8 0, .int .u8 0, .int .u8 0, .int .u8 0, .int .u8 0, .int .u8 0, .int .u8 0, .int .u8 0, .int .u8 0, .int .u8 0, .int .u8 0, .int .u8 0, .int .u8 0, .int .u8 0, .int .u8 0, .int .u8 0, .int .u8 0, .int .u8 0, .int .u8 0, .int .u8 0, .int .u8 0, .int .u8 0, .int .u16 50000, .int .i64 32, .bool true, .int .u8 2, .int .u8 0, .int .u8 0, .int .u8 0, .int .u8 0, .int .u8 0, .int .u8 0, .int .u8 0, .int .u8 0, .int .u8 0, .int .u8 0, .int .u8 0, .int .u8 0, .int .u8 0, .int .u8 0, .int .u8 0, .int .u8 0, .int .u8 0, .int .u8 0, .int .u8 0, .int .u8 0, .int .u8 0, .int .u8 0, .int .u8 0, .int .u8 0, .int .u8 0, .int .u8 0, .int .u8 0, .int .u8 0, .int .u8 0, .int .u8 0, .int .u8 0, .int .u8 0, .int .u16 50000, .int .i64 52]
theorem wpList_bv {ops : Array Oper} {rest : List Oper} {op : Oper} {a : Act} {w : World} {Q : Exit → Act → World → Prop} (v : Value) (ty : TypeId) (xs : List (Nat × Operand)) (vals : List (Nat × Value)) (hb : ∀ w, (Instr.build ty vals.toArray).run Try.prog w = .ok v w) (ho : op.op = .build ty xs.toArray) (hw : Region.wanted op (yielded ops a.tmps) = true) (hx : (xs.map fun p => (p.1, a.eval p.2)) = vals)
    (h : wpList Try.prog ops Q rest (a.put op.dst v) w) : wpList Try.prog ops Q (op :: rest) a w := by
  refine BigFrame.wpList_want hw fun K hK => ?_
  unfold Oper.wp execOp
  simp only [ho, List.map_toArray, hx, Sem.run_bind, Sem.run_pure, Result.andThen_ok, hb]
  exact hK _ _ h
def stz : Array Value := stc false 0 0 0
theorem stc_one (v : Bool) (m sp x : Int) : (stc v m sp x).all (·.oneCell') = true := by simp [stc, Value.oneCell']
theorem ex_m0 : mayM 1 0 = true := by decide
theorem ex_t0 : wrN false 1 + 3 ≤ 1646 := by decide
theorem ex_n0 : wrN false 1 + 3 = 23 := by decide
theorem ex_b0 : ∀ w, (Instr.build 25 #[(1, .int .u8 1)]).run Try.prog w = .ok (.agg (outc false 1 (fun _ => 0) (fun _ => 0) 0)) w := fun w => by kernel_rfl
theorem ex_s0 : ∀ w, (Instr.build 35 #[(0, .agg (outc false 1 (fun _ => 0) (fun _ => 0) 0)), (1, .int .i64 20)]).run Try.prog w = .ok (.agg (stc false 1 0 20)) w := fun w => by kernel_rfl
theorem ex_i0 : ∀ w, (Instr.index 36 (.agg st4) (.int .i64 0)).run Try.prog w = .ok (.agg (stc false 1 0 20)) w := fun w => by kernel_rfl
theorem ex_m1 : mayM 1 0 = true := by decide
theorem ex_t1 : wrN true 1 + 3 ≤ 1646 := by decide
theorem ex_n1 : wrN true 1 + 3 = 43 := by decide
theorem ex_b1 : ∀ w, (Instr.build 25 #[(0, .bool true), (1, .int .u8 1)]).run Try.prog w = .ok (.agg (outc true 1 (fun _ => 0) (fun _ => 0) 0)) w := fun w => by kernel_rfl
theorem ex_s1 : ∀ w, (Instr.build 35 #[(0, .agg (outc true 1 (fun _ => 0) (fun _ => 0) 0)), (1, .int .i64 40)]).run Try.prog w = .ok (.agg (stc true 1 0 40)) w := fun w => by kernel_rfl
theorem ex_i1 : ∀ w, (Instr.index 36 (.agg st4) (.int .i64 1)).run Try.prog w = .ok (.agg (stc true 1 0 40)) w := fun w => by kernel_rfl
theorem ex_m2 : mayM 2 50000 = true := by decide
theorem ex_t2 : wrN false 2 + 3 ≤ 1646 := by decide
theorem ex_n2 : wrN false 2 + 3 = 35 := by decide
theorem ex_b2 : ∀ w, (Instr.build 25 #[(1, .int .u8 2), (4, .int .u16 50000)]).run Try.prog w = .ok (.agg (outc false 2 (fun _ => 0) (fun _ => 0) 50000)) w := fun w => by kernel_rfl
theorem ex_s2 : ∀ w, (Instr.build 35 #[(0, .agg (outc false 2 (fun _ => 0) (fun _ => 0) 50000)), (1, .int .i64 32)]).run Try.prog w = .ok (.agg (stc false 2 50000 32)) w := fun w => by kernel_rfl
theorem ex_i2 : ∀ w, (Instr.index 36 (.agg st4) (.int .i64 2)).run Try.prog w = .ok (.agg (stc false 2 50000 32)) w := fun w => by kernel_rfl
theorem ex_m3 : mayM 2 50000 = true := by decide
theorem ex_t3 : wrN true 2 + 3 ≤ 1646 := by decide
theorem ex_n3 : wrN true 2 + 3 = 55 := by decide
theorem ex_b3 : ∀ w, (Instr.build 25 #[(0, .bool true), (1, .int .u8 2), (4, .int .u16 50000)]).run Try.prog w = .ok (.agg (outc true 2 (fun _ => 0) (fun _ => 0) 50000)) w := fun w => by kernel_rfl
theorem ex_s3 : ∀ w, (Instr.build 35 #[(0, .agg (outc true 2 (fun _ => 0) (fun _ => 0) 50000)), (1, .int .i64 52)]).run Try.prog w = .ok (.agg (stc true 2 50000 52)) w := fun w => by kernel_rfl
theorem ex_i3 : ∀ w, (Instr.index 36 (.agg st4) (.int .i64 3)).run Try.prog w = .ok (.agg (stc true 2 50000 52)) w := fun w => by kernel_rfl
theorem ex_a : ∀ w, (Instr.build 36 #[(0, .agg (stc false 1 0 20)), (1, .agg (stc true 1 0 40)), (2, .agg (stc false 2 50000 32)), (3, .agg (stc true 2 50000 52))]).run Try.prog w = .ok (.agg st4) w := fun w => by kernel_rfl
set_option maxHeartbeats 4000000 in
theorem eknown_any (w : World) : Calls Try.prog 4 #[] w fun e w' => e = .returned (.bool true) ∧ Below w.heap.size w w' := by
  have HK := Lib.hid fun A c W hr => kind_any A 3 c ex8 ex8_byt W hr
  have e4 : knd ex8 3 = 4 := by decide
  rw [e4] at HK
  have HKN := Lib.hid fun W => kind_any none 0 0 (fun _ => 0) zer_byt W (.inl rfl)
  have e0 : knd (fun _ => 0) 0 = 0 := by decide
  rw [e0] at HKN
  clear e4 e0
  have HW0 := Lib.hid (wrap_ex false 1 0 ⟨by omega, by omega⟩ ex_m0 ex_t0 23 ex_n0)
  obtain ⟨S0, hS0⟩ : ∃ x, x = (stc false 1 0 20) := ⟨_, rfl⟩
  obtain ⟨O0, hO0⟩ : ∃ x, x = (outc false 1 (fun _ => 0) (fun _ => 0) 0) := ⟨_, rfl⟩
  have hb0 := ex_b0
  have hs0 := ex_s0
  rw [← hO0] at hb0 hs0 HW0
  rw [← hS0] at hs0
  have HW1 := Lib.hid (wrap_ex true 1 0 ⟨by omega, by omega⟩ ex_m1 ex_t1 43 ex_n1)
  obtain ⟨S1, hS1⟩ : ∃ x, x = (stc true 1 0 40) := ⟨_, rfl⟩
  obtain ⟨O1, hO1⟩ : ∃ x, x = (outc true 1 (fun _ => 0) (fun _ => 0) 0) := ⟨_, rfl⟩
  have hb1 := ex_b1
  have hs1 := ex_s1
  rw [← hO1] at hb1 hs1 HW1
  rw [← hS1] at hs1
  have HW2 := Lib.hid (wrap_ex false 2 50000 ⟨by omega, by omega⟩ ex_m2 ex_t2 35 ex_n2)
  obtain ⟨S2, hS2⟩ : ∃ x, x = (stc false 2 50000 32) := ⟨_, rfl⟩
  obtain ⟨O2, hO2⟩ : ∃ x, x = (outc false 2 (fun _ => 0) (fun _ => 0) 50000) := ⟨_, rfl⟩
  have hb2 := ex_b2
  have hs2 := ex_s2
  rw [← hO2] at hb2 hs2 HW2
  rw [← hS2] at hs2
  have HW3 := Lib.hid (wrap_ex true 2 50000 ⟨by omega, by omega⟩ ex_m3 ex_t3 55 ex_n3)
  obtain ⟨S3, hS3⟩ : ∃ x, x = (stc true 2 50000 52) := ⟨_, rfl⟩
  obtain ⟨O3, hO3⟩ : ∃ x, x = (outc true 2 (fun _ => 0) (fun _ => 0) 50000) := ⟨_, rfl⟩
  have hb3 := ex_b3
  have hs3 := ex_s3
  rw [← hO3] at hb3 hs3 HW3
  rw [← hS3] at hs3
  obtain ⟨A4, hA4⟩ : ∃ x, x = st4 := ⟨_, rfl⟩
  have ha := ex_a
  rw [← hA4, ← hS0, ← hS1, ← hS2, ← hS3] at ha
  have hi0 := ex_i0
  rw [← hA4, ← hS0] at hi0
  have hi1 := ex_i1
  rw [← hA4, ← hS1] at hi1
  have hi2 := ex_i2
  rw [← hA4, ← hS2] at hi2
  have hi3 := ex_i3
  rw [← hA4, ← hS3] at hi3
  have HS0 := Lib.hid hS0
  have HZ0 : Hid (S0.size = 36) := Lib.hid (by rw [hS0]; rfl)
  have HN0 : Hid (S0.all (·.oneCell') = true) := Lib.hid (by rw [hS0]; exact stc_one ..)
  have HO0 := Lib.hid hO0
  have HS1 := Lib.hid hS1
  have HZ1 : Hid (S1.size = 36) := Lib.hid (by rw [hS1]; rfl)
  have HN1 : Hid (S1.all (·.oneCell') = true) := Lib.hid (by rw [hS1]; exact stc_one ..)
  have HO1 := Lib.hid hO1
  have HS2 := Lib.hid hS2
  have HZ2 : Hid (S2.size = 36) := Lib.hid (by rw [hS2]; rfl)
  have HN2 : Hid (S2.all (·.oneCell') = true) := Lib.hid (by rw [hS2]; exact stc_one ..)
  have HO2 := Lib.hid hO2
  have HS3 := Lib.hid hS3
  have HZ3 : Hid (S3.size = 36) := Lib.hid (by rw [hS3]; rfl)
  have HN3 : Hid (S3.all (·.oneCell') = true) := Lib.hid (by rw [hS3]; exact stc_one ..)
  have HO3 := Lib.hid hO3
  have HI36 := Lib.hid (show (Try.prog.info? 35).map (·.size) = some 36 by kernel_rfl)
  clear hA4 hS0 hS1 hS2 hS3 hO0 hO1 hO2 hO3
  have HM : Hid (Mem w (w.alloc (.cells #[.int .u8 69, .int .u8 1, .int .u8 2] 5)) [(w.heap.size, .cells #[.int .u8 69, .int .u8 1, .int .u8 2] 5 (0, 0))]) := Lib.hid ((Mem.nil w).alloc _)
  go_enter Try.func4, Try.ntmps4
  go_upto_region 2 with fail
  change Code.wp _ _ _ _ (w.alloc (.cells #[.int .u8 69, .int .u8 1, .int .u8 2] 5))
  generalize w.alloc (.cells #[.int .u8 69, .int .u8 1, .int .u8 2] 5) = u0 at *
  go_upto_region 2 with fail
  refine wp_region_list ?_
  refine wpList_bv (.agg O0) 25 [(1, .const (.int .u8 1))] [(1, .int .u8 1)] hb0 ?_ ?_ ?_ ?_
  · with_reducible_and_instances rfl
  · rfl
  · rfl
  simp only [Act.put, List.setIfInBounds_toArray, List.set_cons_succ, List.set_cons_zero]
  refine wpList_bv (.agg S0) 35 [(0, .tmp 7), (1, .const (.int .i64 20))] [(0, .agg O0), (1, .int .i64 20)] hs0 ?_ ?_ ?_ ?_
  · with_reducible_and_instances rfl
  · rfl
  · rfl
  simp only [Act.put, List.setIfInBounds_toArray, List.set_cons_succ, List.set_cons_zero]
  refine wpList_bv (.agg O1) 25 [(0, .const (.bool true)), (1, .const (.int .u8 1))] [(0, .bool true), (1, .int .u8 1)] hb1 ?_ ?_ ?_ ?_
  · with_reducible_and_instances rfl
  · rfl
  · rfl
  simp only [Act.put, List.setIfInBounds_toArray, List.set_cons_succ, List.set_cons_zero]
  refine wpList_bv (.agg S1) 35 [(0, .tmp 9), (1, .const (.int .i64 40))] [(0, .agg O1), (1, .int .i64 40)] hs1 ?_ ?_ ?_ ?_
  · with_reducible_and_instances rfl
  · rfl
  · rfl
  simp only [Act.put, List.setIfInBounds_toArray, List.set_cons_succ, List.set_cons_zero]
  refine wpList_bv (.agg O2) 25 [(1, .const (.int .u8 2)), (4, .const (.int .u16 50000))] [(1, .int .u8 2), (4, .int .u16 50000)] hb2 ?_ ?_ ?_ ?_
  · with_reducible_and_instances rfl
  · rfl
  · rfl
  simp only [Act.put, List.setIfInBounds_toArray, List.set_cons_succ, List.set_cons_zero]
  refine wpList_bv (.agg S2) 35 [(0, .tmp 11), (1, .const (.int .i64 32))] [(0, .agg O2), (1, .int .i64 32)] hs2 ?_ ?_ ?_ ?_
  · with_reducible_and_instances rfl
  · rfl
  · rfl
  simp only [Act.put, List.setIfInBounds_toArray, List.set_cons_succ, List.set_cons_zero]
  refine wpList_bv (.agg O3) 25 [(0, .const (.bool true)), (1, .const (.int .u8 2)), (4, .const (.int .u16 50000))] [(0, .bool true), (1, .int .u8 2), (4, .int .u16 50000)] hb3 ?_ ?_ ?_ ?_
  · with_reducible_and_instances rfl
  · rfl
  · rfl
  simp only [Act.put, List.setIfInBounds_toArray, List.set_cons_succ, List.set_cons_zero]
  refine wpList_bv (.agg S3) 35 [(0, .tmp 13), (1, .const (.int .i64 52))] [(0, .agg O3), (1, .int .i64 52)] hs3 ?_ ?_ ?_ ?_
  · with_reducible_and_instances rfl
  · rfl
  · rfl
  simp only [Act.put, List.setIfInBounds_toArray, List.set_cons_succ, List.set_cons_zero]
  refine wpList_bv (.agg A4) 36 [(0, .tmp 8), (1, .tmp 10), (2, .tmp 12), (3, .tmp 14)] [(0, .agg S0), (1, .agg S1), (2, .agg S2), (3, .agg S3)] ha ?_ ?_ ?_ ?_
  · with_reducible_and_instances rfl
  · rfl
  · rfl
  simp only [Act.put, List.setIfInBounds_toArray, List.set_cons_succ, List.set_cons_zero]
  go_wp2_with fail
  clear hb0 hb1 hb2 hb3 hs0 hs1 hs2 hs3 ha
  refine wp_loop_rounds 5 ?_
  rw [rounds_succ]
  have HN : Hid ((u0.alloc (.cells stz 35)).heap[u0.heap.size]? = some (.cells stz 35 (0, 0))) := heap_alloc_new u0 _
  go_upto_region 5 with (first
    | (refine wpList_store_row rfl 35 (.tmp 3) (.tmp 18) rfl u0.heap.size S0 rfl rfl 35 stz HN.out (HI36.out.trans (by rw [HZ0.out])) (by rw [HZ0.out]; rfl) HN0.out ?_))
  change Code.wp _ _ _ _ ((u0.alloc (.cells stz 35)).setRow u0.heap.size S0)
  obtain ⟨q0, hq⟩ : ∃ q, q = u0.heap.size := ⟨_, rfl⟩
  have HMb : Hid (Mem w ((u0.alloc (.cells stz 35)).setRow q0 S0) [(w.heap.size, .cells #[.int .u8 69, .int .u8 1, .int .u8 2] 5 (0, 0)), (q0, .cells S0 35 (0, 0))]) := Lib.hid (HM.out.newrow stz S0 35 q0 hq)
  rw [← hq]
  clear hq HN HM
  have HM := HMb
  clear HMb
  generalize (u0.alloc (.cells stz 35)).setRow q0 S0 = y0 at *
  have xn : y0.cell? ⟨q0, 35, none⟩ = some (.int .i64 20) := (blk_cell (HM.out.get 1 rfl) 35).trans (by rw [HS0.out]; rfl)
  have HRG : Hid (y0.rangeAt q0 0 O0.toList) := Lib.hid (by
    have h := HM.out.get 1 rfl
    rw [HS0.out] at h
    rw [HO0.out]
    exact st_outer h)
  go_wp2_with (first
    | (refine wpList_load_mid rfl 25 (.tmp 20) rfl q0 0 rfl O0.toList _ HRG.out Try.underlying25 rfl (by rw [HO0.out]; kernel_rfl) ?_))
  go_at_call 5
  refine (HW0.out _ 3 y0 (blk_rd (i := 0) (HM.out.get 0 rfl) (lt_heap (HM.out.get 0 rfl)) (fun k hk => by match k, hk with | 0, _ => rfl | 1, _ => rfl | 2, _ => rfl))).mono ?_
  rintro e x1 ⟨U, cu, rfl, hb⟩
  have HMb := Lib.hid (HM.out.step hb)
  have xn' : x1.cell? ⟨q0, 35, none⟩ = some (.int .i64 20) := (blk_cell (HMb.out.get 1 rfl) 35).trans (by rw [HS0.out]; rfl)
  clear hb HM xn HRG HW0
  have HM := HMb
  clear HMb
  go_wp2_with fail
  clear xn'
  rw [rounds_succ]
  have HN : Hid ((x1.alloc (.cells stz 35)).heap[x1.heap.size]? = some (.cells stz 35 (0, 0))) := heap_alloc_new x1 _
  go_upto_region 5 with (first
    | (refine wpList_store_row rfl 35 (.tmp 3) (.tmp 18) rfl x1.heap.size S1 rfl rfl 35 stz HN.out (HI36.out.trans (by rw [HZ1.out])) (by rw [HZ1.out]; rfl) HN1.out ?_))
  change Code.wp _ _ _ _ ((x1.alloc (.cells stz 35)).setRow x1.heap.size S1)
  obtain ⟨q1, hq⟩ : ∃ q, q = x1.heap.size := ⟨_, rfl⟩
  have HMb : Hid (Mem w ((x1.alloc (.cells stz 35)).setRow q1 S1) [(w.heap.size, .cells #[.int .u8 69, .int .u8 1, .int .u8 2] 5 (0, 0)), (q0, .cells S0 35 (0, 0)), (q1, .cells S1 35 (0, 0))]) := Lib.hid (HM.out.newrow stz S1 35 q1 hq)
  rw [← hq]
  clear hq HN HM
  have HM := HMb
  clear HMb
  generalize (x1.alloc (.cells stz 35)).setRow q1 S1 = y1 at *
  have xn : y1.cell? ⟨q1, 35, none⟩ = some (.int .i64 40) := (blk_cell (HM.out.get 2 rfl) 35).trans (by rw [HS1.out]; rfl)
  have HRG : Hid (y1.rangeAt q1 0 O1.toList) := Lib.hid (by
    have h := HM.out.get 2 rfl
    rw [HS1.out] at h
    rw [HO1.out]
    exact st_outer h)
  go_wp2_with (first
    | (refine wpList_load_mid rfl 25 (.tmp 20) rfl q1 0 rfl O1.toList _ HRG.out Try.underlying25 rfl (by rw [HO1.out]; kernel_rfl) ?_))
  go_at_call 5
  refine (HW1.out _ 3 y1 (blk_rd (i := 0) (HM.out.get 0 rfl) (lt_heap (HM.out.get 0 rfl)) (fun k hk => by match k, hk with | 0, _ => rfl | 1, _ => rfl | 2, _ => rfl))).mono ?_
  rintro e x2 ⟨U, cu, rfl, hb⟩
  have HMb := Lib.hid (HM.out.step hb)
  have xn' : x2.cell? ⟨q1, 35, none⟩ = some (.int .i64 40) := (blk_cell (HMb.out.get 2 rfl) 35).trans (by rw [HS1.out]; rfl)
  clear hb HM xn HRG HW1
  have HM := HMb
  clear HMb
  go_wp2_with fail
  clear xn'
  rw [rounds_succ]
  have HN : Hid ((x2.alloc (.cells stz 35)).heap[x2.heap.size]? = some (.cells stz 35 (0, 0))) := heap_alloc_new x2 _
  go_upto_region 5 with (first
    | (refine wpList_store_row rfl 35 (.tmp 3) (.tmp 18) rfl x2.heap.size S2 rfl rfl 35 stz HN.out (HI36.out.trans (by rw [HZ2.out])) (by rw [HZ2.out]; rfl) HN2.out ?_))
  change Code.wp _ _ _ _ ((x2.alloc (.cells stz 35)).setRow x2.heap.size S2)
  obtain ⟨q2, hq⟩ : ∃ q, q = x2.heap.size := ⟨_, rfl⟩
  have HMb : Hid (Mem w ((x2.alloc (.cells stz 35)).setRow q2 S2) [(w.heap.size, .cells #[.int .u8 69, .int .u8 1, .int .u8 2] 5 (0, 0)), (q0, .cells S0 35 (0, 0)), (q1, .cells S1 35 (0, 0)), (q2, .cells S2 35 (0, 0))]) := Lib.hid (HM.out.newrow stz S2 35 q2 hq)
  rw [← hq]
  clear hq HN HM
  have HM := HMb
  clear HMb
  generalize (x2.alloc (.cells stz 35)).setRow q2 S2 = y2 at *
  have xn : y2.cell? ⟨q2, 35, none⟩ = some (.int .i64 32) := (blk_cell (HM.out.get 3 rfl) 35).trans (by rw [HS2.out]; rfl)
  have HRG : Hid (y2.rangeAt q2 0 O2.toList) := Lib.hid (by
    have h := HM.out.get 3 rfl
    rw [HS2.out] at h
    rw [HO2.out]
    exact st_outer h)
  go_wp2_with (first
    | (refine wpList_load_mid rfl 25 (.tmp 20) rfl q2 0 rfl O2.toList _ HRG.out Try.underlying25 rfl (by rw [HO2.out]; kernel_rfl) ?_))
  go_at_call 5
  refine (HW2.out _ 3 y2 (blk_rd (i := 0) (HM.out.get 0 rfl) (lt_heap (HM.out.get 0 rfl)) (fun k hk => by match k, hk with | 0, _ => rfl | 1, _ => rfl | 2, _ => rfl))).mono ?_
  rintro e x3 ⟨U, cu, rfl, hb⟩
  have HMb := Lib.hid (HM.out.step hb)
  have xn' : x3.cell? ⟨q2, 35, none⟩ = some (.int .i64 32) := (blk_cell (HMb.out.get 3 rfl) 35).trans (by rw [HS2.out]; rfl)
  clear hb HM xn HRG HW2
  have HM := HMb
  clear HMb
  go_wp2_with fail
  clear xn'
  rw [rounds_succ]
  have HN : Hid ((x3.alloc (.cells stz 35)).heap[x3.heap.size]? = some (.cells stz 35 (0, 0))) := heap_alloc_new x3 _
  go_upto_region 5 with (first
    | (refine wpList_store_row rfl 35 (.tmp 3) (.tmp 18) rfl x3.heap.size S3 rfl rfl 35 stz HN.out (HI36.out.trans (by rw [HZ3.out])) (by rw [HZ3.out]; rfl) HN3.out ?_))
  change Code.wp _ _ _ _ ((x3.alloc (.cells stz 35)).setRow x3.heap.size S3)
  obtain ⟨q3, hq⟩ : ∃ q, q = x3.heap.size := ⟨_, rfl⟩
  have HMb : Hid (Mem w ((x3.alloc (.cells stz 35)).setRow q3 S3) [(w.heap.size, .cells #[.int .u8 69, .int .u8 1, .int .u8 2] 5 (0, 0)), (q0, .cells S0 35 (0, 0)), (q1, .cells S1 35 (0, 0)), (q2, .cells S2 35 (0, 0)), (q3, .cells S3 35 (0, 0))]) := Lib.hid (HM.out.newrow stz S3 35 q3 hq)
  rw [← hq]
  clear hq HN HM
  have HM := HMb
  clear HMb
  generalize (x3.alloc (.cells stz 35)).setRow q3 S3 = y3 at *
  have xn : y3.cell? ⟨q3, 35, none⟩ = some (.int .i64 52) := (blk_cell (HM.out.get 4 rfl) 35).trans (by rw [HS3.out]; rfl)
  have HRG : Hid (y3.rangeAt q3 0 O3.toList) := Lib.hid (by
    have h := HM.out.get 4 rfl
    rw [HS3.out] at h
    rw [HO3.out]
    exact st_outer h)
  go_wp2_with (first
    | (refine wpList_load_mid rfl 25 (.tmp 20) rfl q3 0 rfl O3.toList _ HRG.out Try.underlying25 rfl (by rw [HO3.out]; kernel_rfl) ?_))
  go_at_call 5
  refine (HW3.out _ 3 y3 (blk_rd (i := 0) (HM.out.get 0 rfl) (lt_heap (HM.out.get 0 rfl)) (fun k hk => by match k, hk with | 0, _ => rfl | 1, _ => rfl | 2, _ => rfl))).mono ?_
  rintro e x4 ⟨U, cu, rfl, hb⟩
  have HMb := Lib.hid (HM.out.step hb)
  have xn' : x4.cell? ⟨q3, 35, none⟩ = some (.int .i64 52) := (blk_cell (HMb.out.get 4 rfl) 35).trans (by rw [HS3.out]; rfl)
  clear hb HM xn HRG HW3
  have HM := HMb
  clear HMb
  go_wp2_with fail
  clear xn'
  rw [rounds_succ]
  go_wp2_with (first
    | (go_at_call 7; first | (refine (HK.out _ 3 _ (blk_rd (i := 0) (HM.out.get 0 rfl) (lt_heap (HM.out.get 0 rfl)) (fun k hk => by match k, hk with | 0, _ => rfl | 1, _ => rfl | 2, _ => rfl))).mono ?_; rintro e z1 ⟨rfl, rfl⟩; clear HK) | (refine (HKN.out _).mono ?_; rintro e z2 ⟨rfl, rfl⟩)))
  go_ret
  exact ⟨rfl, HM.out.below⟩
end Go.Proofs.Ythjgecdnlpdcdaa
