/- The program's ether.Parse: the address that a text is of. -/
import Derived.Test.YtekjmjipgndccaaCut
import Derived.Laws.NewDeep
namespace Go.Proofs.Ytekjmjipgndccaa
open Go.RowKit
set_option maxHeartbeats 400000 in
theorem parse_len (s : ByteArray) (hs : s.size ≠ 17) (hs' : s.size ≤ 9223372036854775807) (w : World) : Calls Try.prog 13 #[.string s] w fun e w' => e = .returned (.tuple #[.agg (arr6 fun _ => 0), .int .i64 5]) ∧ Below w.heap.size w w' := by
  have h : ((s.size : Int) != 17) = true := by simp; omega
  go_enter Try.func13, Try.ntmps13
  go_wp2
  refine bodyPost_ret (v := .tuple #[.agg (arr6 fun _ => 0), .int .i64 5]) (by simp [results, Try.results13, go_sem, arr6]) rfl ⟨rfl, ?_⟩
  exact below_alloc2 w _ _
theorem or_sixteen (x y : Int) (h0 : 0 ≤ x) (h1 : x ≤ 15) (h2 : 0 ≤ y) (h3 : y ≤ 15) : bits .or .i64 (x * 16) y = x * 16 + y := by
  obtain ⟨n, rfl⟩ := Int.eq_ofNat_of_zero_le h0
  obtain ⟨m, rfl⟩ := Int.eq_ofNat_of_zero_le h2
  have e : (List.range 16).all (fun n => (List.range 16).all fun m => decide (bits .or .i64 ((n : Int) * 16) (m : Int) = (n : Int) * 16 + (m : Int))) = true := by kernel_rfl
  have e1 := List.all_eq_true.1 e n (by simp <;> omega)
  have e2 := List.all_eq_true.1 e1 m (by simp <;> omega)
  simpa using e2
/-- What round k asks of a text. -/
def pOk (s : ByteArray) (k : Nat) : Prop := (0 < k → chr s (3 * k - 1) = 58) ∧ dig (chr s (3 * k)) ≤ 15 ∧ dig (chr s (3 * k + 1)) ≤ 15
theorem pOk_all (s : ByteArray) : (∀ i, i < 6 → okAt s i) ↔ ∀ k, k < 6 → pOk s k := by
  constructor
  · intro h k hk
    refine ⟨fun h0 => ?_, (h k hk).1, (h k hk).2.1⟩
    have e := (h (k - 1) (by omega)).2.2 (by omega)
    have e1 : 3 * (k - 1) + 2 = 3 * k - 1 := by omega
    rw [e1] at e
    exact e
  · intro h i hi
    refine ⟨(h i hi).2.1, (h i hi).2.2, fun h5 => ?_⟩
    have e := (h (i + 1) (by omega)).1 (by omega)
    have e1 : 3 * (i + 1) - 1 = 3 * i + 2 := by omega
    rw [e1] at e
    exact e
theorem dgv_good {c : Int} (h : dig c ≤ 15) : dgv c = dig c := by unfold dgv; rw [if_pos h]
theorem dgv_bad {c : Int} (h : ¬ dig c ≤ 15) : dgv c = -1 := by unfold dgv; rw [if_neg h]
/-- The four blocks of a call under way: the rest of the text, the result, the closure, the address. -/
structure Mid (s : ByteArray) (V : Nat → Int) (B : Nat) (j k : Nat) (S : ByteArray) (w W : World) : Prop where
  rest : Rest s j S
  str : W.heap[B]? = some (.cells #[.string S] 9 (0, 0))
  res : W.heap[B + 1]? = some (.cells (arr6 fun _ => 0) 22 (0, 0))
  fn : W.heap[B + 1 + 1]? = some (.cells #[.func (.func 17) #[] #[.pointer (some ⟨B, 0, none⟩)]] 42 (0, 0))
  arr : W.heap[B + 1 + 1 + 1]? = some (.cells (arr6 (lim V k)) 22 (0, 0))
  below : Below B w W
theorem Mid.next {s : ByteArray} {V : Nat → Int} {B j k : Nat} {S : ByteArray} {w W : World} (h : Mid s V B j k S w W) (hj : j < s.size) {W' : World} (hw : W' = W.setCell ⟨B, 0, none⟩ (.string (S.extract 1 S.size))) : Mid s V B (j + 1) k (S.extract 1 S.size) w W' := by
  subst hw
  exact ⟨rest_next h.rest hj, blk_set h.str 0 _, blk_far h.res (by simp) _, blk_far h.fn (by simp <;> omega) _, blk_far h.arr (by simp <;> omega) _, h.below.setCell (Nat.le_refl _) _⟩
theorem Mid.put {s : ByteArray} {V : Nat → Int} {B j k : Nat} {S : ByteArray} {w W : World} (h : Mid s V B j k S w W) (hk : k < 6) {x : Int} (hx : x = V k) : Mid s V B j (k + 1) S w (W.setCell ⟨B + 1 + 1 + 1, k, none⟩ (.int .u8 x)) := by
  subst hx
  exact ⟨h.rest, blk_far h.str (by simp <;> omega) _, blk_far h.res (by simp <;> omega) _, blk_far h.fn (by simp) _, by rw [← arr6_step V k hk]; exact blk_set h.arr k _, h.below.setCell (by simp <;> omega) _⟩
theorem mid_here (s : ByteArray) (V : Nat → Int) (w : World) : Mid s V w.heap.size 0 0 s w ((((w.alloc (Obj.cells #[Value.string s] 9)).alloc (Obj.cells #[Value.int IntKind.u8 0, Value.int IntKind.u8 0, Value.int IntKind.u8 0, Value.int IntKind.u8 0, Value.int IntKind.u8 0, Value.int IntKind.u8 0] 22)).alloc (Obj.cells #[Value.func (Fn.func 17) #[] #[Value.pointer (some { block := w.heap.size, off := 0 })]] 42)).alloc (Obj.cells #[Value.int IntKind.u8 0, Value.int IntKind.u8 0, Value.int IntKind.u8 0, Value.int IntKind.u8 0, Value.int IntKind.u8 0, Value.int IntKind.u8 0] 22)) := by
  have e1 : (w.alloc (Obj.cells #[Value.string s] 9)).heap.size = w.heap.size + 1 := by simp
  have e2 : ((w.alloc (Obj.cells #[Value.string s] 9)).alloc (Obj.cells #[Value.int IntKind.u8 0, Value.int IntKind.u8 0, Value.int IntKind.u8 0, Value.int IntKind.u8 0, Value.int IntKind.u8 0, Value.int IntKind.u8 0] 22)).heap.size = w.heap.size + 1 + 1 := by simp
  have e3 : (((w.alloc (Obj.cells #[Value.string s] 9)).alloc (Obj.cells #[Value.int IntKind.u8 0, Value.int IntKind.u8 0, Value.int IntKind.u8 0, Value.int IntKind.u8 0, Value.int IntKind.u8 0, Value.int IntKind.u8 0] 22)).alloc (Obj.cells #[Value.func (Fn.func 17) #[] #[Value.pointer (some { block := w.heap.size, off := 0 })]] 42)).heap.size = w.heap.size + 1 + 1 + 1 := by simp
  refine ⟨rest_here s, blk_old (blk_old (blk_old (heap_alloc_new w _) _) _) _, blk_old (blk_old ?_ _) _, blk_old ?_ _, ?_, ((below_alloc2 w _ _).alloc (alloc_le2 w _ _) _).alloc (Nat.le_trans (alloc_le2 w _ _) (alloc_le _ _)) _⟩
  · rw [← e1]; exact heap_alloc_new _ _
  · rw [← e2]; exact heap_alloc_new _ _
  · rw [← e3]; exact heap_alloc_new _ _
set_option maxRecDepth 100000 in
set_option maxHeartbeats 2000000 in
theorem parse_any (s : ByteArray) (hs : s.size = 17) (j : Nat) (hj : j ≤ 6) (hok : ∀ i, i < j → pOk s i) (hno : j < 6 → ¬ pOk s j) (w : World) : Calls Try.prog 13 #[.string s] w fun e w' => e = .returned (if j = 6 then .tuple #[.agg (arr6 (pval s)), .int .i64 0] else .tuple #[.agg (arr6 fun _ => 0), .int .i64 5]) ∧ Below w.heap.size w w' := by
  have h : ((s.size : Int) != 17) = false := by simp; omega
  have HOK := Lib.hid hok
  have HNO := Lib.hid hno
  obtain ⟨R, hR⟩ : ∃ R, R = (if j = 6 then .tuple #[.agg (arr6 (pval s)), .int .i64 0] else .tuple #[.agg (arr6 fun _ => 0), .int .i64 5] : Value) := ⟨_, rfl⟩
  rw [← hR]
  have HR := Lib.hid hR
  obtain ⟨V, hV⟩ : ∃ V, V = pval s := ⟨_, rfl⟩
  rw [← hV] at HR
  have HV := Lib.hid hV
  clear hok hno hR hV
  have HM0 := Lib.hid (mid_here s V w)
  have hmf : ∀ (fn : Fn) (first cap : Array Value) (w : World), (Instr.makeFunc fn first cap).run Try.prog w = .ok (.func fn first cap) w := fun _ _ _ _ => rfl
  have hsf := fun (a : Addr) (c : Array Value) (w : World) => run_store Try.prog w a (.func (.func 17) #[] c) .plain rfl
  go_enter Try.func13, Try.ntmps13
  go_wp2
  clear hmf hsf h
  go_loopw [16] (fun i wr => ∃ (k : Nat) (S : ByteArray), k ≤ j ∧ i = .int .i64 k ∧ Mid s V w.heap.size (3 * k - 1) k S w wr) (fun i _ => 6 - (intOf i).toNat)
  case atStart => exact ⟨0, s, by omega, rfl, HM0.out⟩
  case round =>
    clear HM0
    obtain ⟨k, S, hk, rfl, hm⟩ := hrel
    have HM := Lib.hid hm
    clear hm
    by_cases h6 : k < 6
    · by_cases h0 : 0 < k
      · have C0 := Lib.hid (cut_any w.heap.size S (by have := HM.out.rest.1; omega) (by have := HM.out.rest.1; omega) wr HM.out.str)
        rw [rest_chr HM.out.rest] at C0
        have hc4 := blk_cell HM.out.fn 0
        simp at hc4
        by_cases h58 : chr s (3 * k - 1) = 58
        · rw [h58] at C0
          go_wp2_with fail
          go_at_call 17
          refine C0.out.mono ?_
          rintro e W1 ⟨rfl, hW1⟩
          have HM1 := Lib.hid (HM.out.next (by omega) hW1)
          clear hW1 hc4 C0 HM
          generalize S.extract 1 S.size = S1 at *
          have e3 : 3 * k - 1 + 1 = 3 * k := by omega
          rw [e3] at HM1
          clear e3
          go_wp2_with fail
          have D0 := Lib.hid (digit_any (w.heap.size + 1 + 1) w.heap.size S1 (by have := HM1.out.rest.1; omega) (by have := HM1.out.rest.1; omega) W1 HM1.out.str HM1.out.fn)
          rw [rest_chr HM1.out.rest] at D0
          go_at_call 18
          refine D0.out.mono ?_
          rintro e W2 ⟨rfl, hW2⟩
          have HM2 := Lib.hid (HM1.out.next (by omega) hW2)
          clear hW2 D0 HM1
          generalize S1.extract 1 S1.size = S2 at *
          go_wp2_with fail
          have D1 := Lib.hid (digit_any (w.heap.size + 1 + 1) w.heap.size S2 (by have := HM2.out.rest.1; omega) (by have := HM2.out.rest.1; omega) W2 HM2.out.str HM2.out.fn)
          rw [rest_chr HM2.out.rest] at D1
          go_at_call 18
          refine D1.out.mono ?_
          rintro e W3 ⟨rfl, hW3⟩
          have HM3 := Lib.hid (HM2.out.next (by omega) hW3)
          clear hW3 D1 HM2
          generalize S2.extract 1 S2.size = S3 at *
          obtain ⟨d01, d02⟩ := dig_bd (chr s (3 * k))
          obtain ⟨d11, d12⟩ := dig_bd (chr s (3 * k + 1))
          by_cases hd0 : dig (chr s (3 * k)) ≤ 15
          · rw [dgv_good hd0]
            by_cases hd1 : dig (chr s (3 * k + 1)) ≤ 15
            · rw [dgv_good hd1]
              have hkj : k < j := by
                rcases Nat.lt_or_ge k j with hlt | hge
                · exact hlt
                · have e : k = j := by omega
                  exact absurd (e ▸ (⟨fun _ => h58, hd0, hd1⟩ : pOk s k)) (HNO.out (by omega))
              have HP : Hid (V k = dig (chr s (3 * k)) * 16 + dig (chr s (3 * k + 1))) := by rw [HV.out]; rfl
              have ho := or_sixteen _ _ d01 hd0 d11 hd1
              have hcx := (blk_cell HM3.out.arr k).trans (arr6_get _ k h6)
              have hfx := blk_free HM3.out.arr k
              generalize dig (chr s (3 * k)) = x0 at *
              generalize dig (chr s (3 * k + 1)) = x1 at *
              go_wp2
              go_roundw
              case rel =>
                refine ⟨k + 1, S3, by omega, by go_num, ?_⟩
                have e : 3 * (k + 1) - 1 = 3 * k + 1 + 1 := by omega
                rw [e]
                exact HM3.out.put h6 HP.out.symm
              case measure => simp [intOf]; omega
            · rw [dgv_bad hd1]
              have hkj : j = k := by
                rcases Nat.lt_or_ge k j with hlt | hge
                · exact absurd (HOK.out k hlt) (fun q => hd1 q.2.2)
                · omega
              subst hkj
              have hRz : R = .tuple #[.agg (arr6 fun _ => 0), .int .i64 5] := by rw [HR.out, if_neg (by omega)]
              obtain ⟨z0, z1, z2, z3, z4, z5⟩ := arr6_cells HM3.out.res
              obtain ⟨y0, y1, y2, y3, y4, y5⟩ := arr6_free HM3.out.res
              have hlow := Lib.hid HM3.out.below
              go_wp2
              refine bodyPost_ret (v := .tuple #[.agg (arr6 fun _ => 0), .int .i64 5]) (by simp [results, Try.results13, go_sem, arr6, z0, z1, z2, z3, z4, z5]) rfl ⟨by rw [hRz], ?_⟩
              exact (((((hlow.out.setCell (Nat.le_succ _) _).setCell (Nat.le_succ _) _).setCell (Nat.le_succ _) _).setCell (Nat.le_succ _) _).setCell (Nat.le_succ _) _).setCell (Nat.le_succ _) _
          · rw [dgv_bad hd0]
            have hkj : j = k := by
              rcases Nat.lt_or_ge k j with hlt | hge
              · exact absurd (HOK.out k hlt) (fun q => hd0 q.2.1)
              · omega
            subst hkj
            have hRz : R = .tuple #[.agg (arr6 fun _ => 0), .int .i64 5] := by rw [HR.out, if_neg (by omega)]
            obtain ⟨z0, z1, z2, z3, z4, z5⟩ := arr6_cells HM3.out.res
            obtain ⟨y0, y1, y2, y3, y4, y5⟩ := arr6_free HM3.out.res
            have hlow := Lib.hid HM3.out.below
            go_wp2
            refine bodyPost_ret (v := .tuple #[.agg (arr6 fun _ => 0), .int .i64 5]) (by simp [results, Try.results13, go_sem, arr6, z0, z1, z2, z3, z4, z5]) rfl ⟨by rw [hRz], ?_⟩
            exact (((((hlow.out.setCell (Nat.le_succ _) _).setCell (Nat.le_succ _) _).setCell (Nat.le_succ _) _).setCell (Nat.le_succ _) _).setCell (Nat.le_succ _) _).setCell (Nat.le_succ _) _
        · have h58' : (chr s (3 * k - 1) != 58) = true := by simpa using h58
          have HP1 : Hid (pOk s k → chr s (3 * k - 1) = 58) := fun q => q.1 h0
          generalize chr s (3 * k - 1) = cc at *
          go_wp2_with fail
          go_at_call 17
          refine C0.out.mono ?_
          rintro e W1 ⟨rfl, hW1⟩
          have HM1 := Lib.hid (HM.out.next (by omega) hW1)
          clear hW1 hc4 C0 HM
          have hkj : j = k := by
            rcases Nat.lt_or_ge k j with hlt | hge
            · exact absurd (HOK.out k hlt) (fun q => h58 (HP1.out q))
            · omega
          subst hkj
          have hRz : R = .tuple #[.agg (arr6 fun _ => 0), .int .i64 5] := by rw [HR.out, if_neg (by omega)]
          obtain ⟨z0, z1, z2, z3, z4, z5⟩ := arr6_cells HM1.out.res
          obtain ⟨y0, y1, y2, y3, y4, y5⟩ := arr6_free HM1.out.res
          have hlow := Lib.hid HM1.out.below
          go_wp2
          refine bodyPost_ret (v := .tuple #[.agg (arr6 fun _ => 0), .int .i64 5]) (by simp [results, Try.results13, go_sem, arr6, z0, z1, z2, z3, z4, z5]) rfl ⟨by rw [hRz], ?_⟩
          exact (((((hlow.out.setCell (Nat.le_succ _) _).setCell (Nat.le_succ _) _).setCell (Nat.le_succ _) _).setCell (Nat.le_succ _) _).setCell (Nat.le_succ _) _).setCell (Nat.le_succ _) _
      · have HM1 : Hid (Mid s V w.heap.size (3 * k) k S w wr) := by
          have e : 3 * k - 1 = 3 * k := by omega
          have q := HM.out
          rw [e] at q
          exact q
        clear HM
        go_wp2_with fail
        have D0 := Lib.hid (digit_any (w.heap.size + 1 + 1) w.heap.size S (by have := HM1.out.rest.1; omega) (by have := HM1.out.rest.1; omega) wr HM1.out.str HM1.out.fn)
        rw [rest_chr HM1.out.rest] at D0
        go_at_call 18
        refine D0.out.mono ?_
        rintro e W2 ⟨rfl, hW2⟩
        have HM2 := Lib.hid (HM1.out.next (by omega) hW2)
        clear hW2 D0 HM1
        generalize S.extract 1 S.size = S2 at *
        go_wp2_with fail
        have D1 := Lib.hid (digit_any (w.heap.size + 1 + 1) w.heap.size S2 (by have := HM2.out.rest.1; omega) (by have := HM2.out.rest.1; omega) W2 HM2.out.str HM2.out.fn)
        rw [rest_chr HM2.out.rest] at D1
        go_at_call 18
        refine D1.out.mono ?_
        rintro e W3 ⟨rfl, hW3⟩
        have HM3 := Lib.hid (HM2.out.next (by omega) hW3)
        clear hW3 D1 HM2
        generalize S2.extract 1 S2.size = S3 at *
        obtain ⟨d01, d02⟩ := dig_bd (chr s (3 * k))
        obtain ⟨d11, d12⟩ := dig_bd (chr s (3 * k + 1))
        by_cases hd0 : dig (chr s (3 * k)) ≤ 15
        · rw [dgv_good hd0]
          by_cases hd1 : dig (chr s (3 * k + 1)) ≤ 15
          · rw [dgv_good hd1]
            have hkj : k < j := by
              rcases Nat.lt_or_ge k j with hlt | hge
              · exact hlt
              · have e : k = j := by omega
                exact absurd (e ▸ (⟨fun q => absurd q h0, hd0, hd1⟩ : pOk s k)) (HNO.out (by omega))
            have HP : Hid (V k = dig (chr s (3 * k)) * 16 + dig (chr s (3 * k + 1))) := by rw [HV.out]; rfl
            have ho := or_sixteen _ _ d01 hd0 d11 hd1
            have hcx := (blk_cell HM3.out.arr k).trans (arr6_get _ k h6)
            have hfx := blk_free HM3.out.arr k
            generalize dig (chr s (3 * k)) = x0 at *
            generalize dig (chr s (3 * k + 1)) = x1 at *
            go_wp2
            go_roundw
            case rel =>
              refine ⟨k + 1, S3, by omega, by go_num, ?_⟩
              have e : 3 * (k + 1) - 1 = 3 * k + 1 + 1 := by omega
              rw [e]
              exact HM3.out.put h6 HP.out.symm
            case measure => simp [intOf]; omega
          · rw [dgv_bad hd1]
            have hkj : j = k := by
              rcases Nat.lt_or_ge k j with hlt | hge
              · exact absurd (HOK.out k hlt) (fun q => hd1 q.2.2)
              · omega
            subst hkj
            have hRz : R = .tuple #[.agg (arr6 fun _ => 0), .int .i64 5] := by rw [HR.out, if_neg (by omega)]
            obtain ⟨z0, z1, z2, z3, z4, z5⟩ := arr6_cells HM3.out.res
            obtain ⟨y0, y1, y2, y3, y4, y5⟩ := arr6_free HM3.out.res
            have hlow := Lib.hid HM3.out.below
            go_wp2
            refine bodyPost_ret (v := .tuple #[.agg (arr6 fun _ => 0), .int .i64 5]) (by simp [results, Try.results13, go_sem, arr6, z0, z1, z2, z3, z4, z5]) rfl ⟨by rw [hRz], ?_⟩
            exact (((((hlow.out.setCell (Nat.le_succ _) _).setCell (Nat.le_succ _) _).setCell (Nat.le_succ _) _).setCell (Nat.le_succ _) _).setCell (Nat.le_succ _) _).setCell (Nat.le_succ _) _
        · rw [dgv_bad hd0]
          have hkj : j = k := by
            rcases Nat.lt_or_ge k j with hlt | hge
            · exact absurd (HOK.out k hlt) (fun q => hd0 q.2.1)
            · omega
          subst hkj
          have hRz : R = .tuple #[.agg (arr6 fun _ => 0), .int .i64 5] := by rw [HR.out, if_neg (by omega)]
          obtain ⟨z0, z1, z2, z3, z4, z5⟩ := arr6_cells HM3.out.res
          obtain ⟨y0, y1, y2, y3, y4, y5⟩ := arr6_free HM3.out.res
          have hlow := Lib.hid HM3.out.below
          go_wp2
          refine bodyPost_ret (v := .tuple #[.agg (arr6 fun _ => 0), .int .i64 5]) (by simp [results, Try.results13, go_sem, arr6, z0, z1, z2, z3, z4, z5]) rfl ⟨by rw [hRz], ?_⟩
          exact (((((hlow.out.setCell (Nat.le_succ _) _).setCell (Nat.le_succ _) _).setCell (Nat.le_succ _) _).setCell (Nat.le_succ _) _).setCell (Nat.le_succ _) _).setCell (Nat.le_succ _) _
    · obtain rfl : k = 6 := by omega
      have hj6 : j = 6 := by omega
      have hRg : R = .tuple #[.agg (arr6 V), .int .i64 0] := by rw [HR.out, if_pos hj6]
      have ha := HM.out.arr
      rw [lim_full6] at ha
      obtain ⟨a0, a1, a2, a3, a4, a5⟩ := arr6_cells ha
      clear ha
      obtain ⟨z0, z1, z2, z3, z4, z5⟩ := arr6_cells HM.out.res
      obtain ⟨y0, y1, y2, y3, y4, y5⟩ := arr6_free HM.out.res
      have hlow := Lib.hid HM.out.below
      go_wp2
      refine bodyPost_ret (v := .tuple #[.agg (arr6 V), .int .i64 0]) (by simp [results, Try.results13, go_sem, arr6, z0, z1, z2, z3, z4, z5]) rfl ⟨by rw [hRg], ?_⟩
      exact (((((hlow.out.setCell (Nat.le_succ _) _).setCell (Nat.le_succ _) _).setCell (Nat.le_succ _) _).setCell (Nat.le_succ _) _).setCell (Nat.le_succ _) _).setCell (Nat.le_succ _) _
end Go.Proofs.Ytekjmjipgndccaa
