import Derived.Test.YtkmakdhlaenaoaaGm31
import Derived.Test.YtkmakdhlaenaoaaGm26
import Derived.Test.YtkmakdhlaenaoaaGm10
/- Stage 11: WheelPlays: too many calls, too many cells, cells that may not be. -/
namespace Go.Proofs.Ytkmakdhlaenaoaa
set_option maxRecDepth 100000
open Go.RowKit Go.Shelf
theorem plays_long (cells : Int) (fr : Int) (A : Option Addr) (m c : Nat) (hm : 60 < m) (w : World) : Calls Try.prog 3 #[.int .i64 cells, .int .u64 fr, .slice A m c] w (ret (.bool true) w) := by
  have HKN := Lib.hid known_any
  have b1 : (60 : Int) < (m : Int) := by omega
  go_enter Try.func3, Try.ntmps3
  go_wp2_with (first
    | (go_at_call 6
       refine (HKN.out _).mono ?_
       rintro e v2 ⟨rfl, hb2⟩
       have HB2 := Lib.hid hb2
       clear hb2))
  go_ret
  exact ⟨rfl, HB2.out⟩
theorem plays_mid (cells : Int) (h1 : 40 < cells) (h2 : cells ≤ 65536) (fr : Int) (A : Option Addr) (m c : Nat) (hm : m ≤ 60) (w : World) : Calls Try.prog 3 #[.int .i64 cells, .int .u64 fr, .slice A m c] w (ret (.bool true) w) := by
  have HKN := Lib.hid known_any
  have b1 : ¬ (60 : Int) < (m : Int) := by omega
  go_enter Try.func3, Try.ntmps3
  go_wp2_with (first
    | (go_at_call 6
       refine (HKN.out _).mono ?_
       rintro e v2 ⟨rfl, hb2⟩
       have HB2 := Lib.hid hb2
       clear hb2))
  go_ret
  exact ⟨rfl, HB2.out⟩
theorem plays_bad (cells : Int) (h : cells < 1 ∨ 65536 < cells) (fr : Int) (A : Option Addr) (m c : Nat) (hm : m ≤ 60) (w : World) : Calls Try.prog 3 #[.int .i64 cells, .int .u64 fr, .slice A m c] w (ret (.bool true) w) := by
  have HKN := Lib.hid known_any
  have HNW := Lib.hid (pwnew_bad w cells h)
  have b1 : ¬ (60 : Int) < (m : Int) := by omega
  rcases h with h | h
  · have b2 : ¬ (40 : Int) < cells := by omega
    go_enter Try.func3, Try.ntmps3
    go_wp2_with (first
      | (go_at_call 7
         refine HNW.out.mono ?_
         rintro e v1 ⟨rfl, hb1⟩
         have HB1 := Lib.hid hb1
         clear hb1)
      | (go_at_call 6
         refine (HKN.out _).mono ?_
         rintro e v2 ⟨rfl, hb2⟩
         have HB2 := Lib.hid (HB1.out.trans (hb2.mono HB1.out.size))
         clear hb2))
    go_ret
    exact ⟨rfl, HB2.out⟩
  · have b2 : (40 : Int) < cells := by omega
    have b3 : ¬ cells ≤ 65536 := by omega
    have b4 : ¬ cells < 1 := by omega
    go_enter Try.func3, Try.ntmps3
    go_wp2_with (first
      | (go_at_call 7
         refine HNW.out.mono ?_
         rintro e v1 ⟨rfl, hb1⟩
         have HB1 := Lib.hid hb1
         clear hb1)
      | (go_at_call 6
         refine (HKN.out _).mono ?_
         rintro e v2 ⟨rfl, hb2⟩
         have HB2 := Lib.hid (HB1.out.trans (hb2.mono HB1.out.size))
         clear hb2))
    go_ret
    exact ⟨rfl, HB2.out⟩
end Go.Proofs.Ytkmakdhlaenaoaa
/- Stage 11: the document's drop. -/
namespace Go.Proofs.Ytkmakdhlaenaoaa
set_option maxRecDepth 100000
open Go.RowKit Go.Shelf
theorem Try.infoTT : (Try.prog.info? 83).map (fun i => (i.zero, i.size, i.bytes)) = some (some (.agg #[.int .i64 0, .int .u64 0, .int .u64 0, .int .u64 0]), 4, 32) := by kernel_rfl
/-- The last one of a handle. -/
def lastIs (l : List Tm) (i : Int) (k : Nat) : Tm := ((l.filter fun t => t.is_ i k).getLast?).getD ⟨0, 0, 0, 0⟩
theorem lastIs_snoc (l : List Tm) (t : Tm) (i : Int) (k : Nat) : lastIs (l ++ [t]) i k = if t.is_ i k = true then t else lastIs l i k := by
  unfold lastIs
  rw [List.filter_append]
  by_cases h : t.is_ i k = true
  · simp [h]
  · simp [h]
theorem drop_snoc (l : List Tm) (t : Tm) (i : Int) (k : Nat) : Wh.drop (l ++ [t]) i k = if t.is_ i k = true then Wh.drop l i k else Wh.drop l i k ++ [t] := by
  unfold Wh.drop
  rw [List.filter_append]
  by_cases h : t.is_ i k = true
  · simp [h]
  · simp [h]
theorem tk_snoc {L : List Tm} {j : Nat} {t : Tm} (h : L[j]? = some t) : L.take (j + 1) = L.take j ++ [t] := by
  rw [List.take_add_one, h]
  rfl
theorem drop_le (l : List Tm) (i : Int) (k : Nat) : (Wh.drop l i k).length ≤ l.length := List.length_filter_le ..
theorem mem_own {w W W' : World} {L : List (Nat × Obj)} (h : Mem w W L) {row : Option Nat} (hg : W.grownBy W' row) (hlo : ∀ k, row = some k → w.heap.size ≤ k) (hne : ∀ x, x ∈ L → ∀ k, row = some k → x.1 ≠ k) : Mem w W' L :=
  ⟨fun p hp => (hg.block p.1 (lt_heap (h.all p hp)) (fun e => hne p hp p.1 e.symm rfl)).trans (h.all p hp), h.lo, h.inc, h.below.grown hg h.below.size hlo⟩
theorem eqT (t : Tm) (hi : Int) (k : Nat) (W : World) : (binOp .eql 46 (.agg #[.int .i64 (t.i : Int), .int .u64 (t.k : Int)]) (.agg #[.int .i64 hi, .int .u64 (k : Int)])).run Try.prog W = .ok (.bool (t.is_ hi k)) W := by
  rw [eqlH]
  have e : ((t.i : Int) == hi && (t.k : Int) == (k : Int)) = t.is_ hi k := by
    unfold Tm.is_
    by_cases h1 : (t.i : Int) = hi
    · by_cases h2 : t.k = k
      · simp [h1, h2]
      · have : ¬ (t.k : Int) = (k : Int) := by omega
        have e1 : ((t.k : Int) == (k : Int)) = false := beq_false_of_ne this
        have e2 : (t.k == k) = false := beq_false_of_ne h2
        simp [h1, e1, e2]
    · simp [h1]
  rw [e]
section
variable {w : World} {q r : Nat} {B : Option Addr} {d : Nat} {A : Ar} {L : List Tm} {now : Nat} {G : Nat → Prop}
set_option maxHeartbeats 2000000 in
theorem rdrop (h : DX w q r B d A L now G) (hL : L.length ≤ 65536) (hi : Int) (k : Nat) : Calls Try.prog 48 #[.pointer (some ⟨q, 0, none⟩), .agg #[.int .i64 hi, .int .u64 (k : Int)]] w fun e w' => e = .returned (.agg (tmv (lastIs L hi k))) ∧ ∃ D dd, ((Wh.drop L hi k).length = 0 → dd = 0) ∧ w'.heap[q]? = some (.cells #[.pointer (some ⟨r, 0, none⟩), .slice D (Wh.drop L hi k).length dd, .int .u64 (now : Int)] 39 (0, 0)) ∧
    OwnC w' w.heap.size 83 4 D (Wh.drop L hi k).length dd (rwc 4 tmv (Wh.drop L hi k)) ∧ Kept (fun k => k = q) w w' := by
  obtain ⟨i0, hi0, hz0, hz1, hz2⟩ := info_parts Try.infoTT
  have HI0 := Lib.hid hi0
  have HZ0 := Lib.hid hz0
  have HZ1 := Lib.hid hz1
  have HZ2 := Lib.hid hz2
  clear hi0 hz0 hz1 hz2
  have HX0 := Lib.hid h
  have HM0 : Hid (Mem w (((w.alloc (.cells #[.int .i64 hi, .int .u64 (k : Int)] 46)).alloc (.cells #[.int .i64 0, .int .u64 0, .int .u64 0, .int .u64 0] 83)).alloc (.cells #[.int .i64 0, .int .u64 0, .int .u64 0, .int .u64 0] 83)) [(w.heap.size, .cells #[.int .i64 hi, .int .u64 (k : Int)] 46 (0, 0)), (w.heap.size + 1, .cells #[.int .i64 0, .int .u64 0, .int .u64 0, .int .u64 0] 83 (0, 0)), (w.heap.size + 2, .cells #[.int .i64 0, .int .u64 0, .int .u64 0, .int .u64 0] 83 (0, 0))]) := Lib.hid (by
    have h := (((Mem.nil w).alloc (.cells #[.int .i64 hi, .int .u64 (k : Int)] 46)).alloc (.cells #[.int .i64 0, .int .u64 0, .int .u64 0, .int .u64 0] 83)).alloc (.cells #[.int .i64 0, .int .u64 0, .int .u64 0, .int .u64 0] 83)
    have r1 : (w.alloc (.cells #[.int .i64 hi, .int .u64 (k : Int)] 46)).heap.size = w.heap.size + 1 := by simp
    have r2 : ((w.alloc (.cells #[.int .i64 hi, .int .u64 (k : Int)] 46)).alloc (.cells #[.int .i64 0, .int .u64 0, .int .u64 0, .int .u64 0] 83)).heap.size = w.heap.size + 2 := by simp
    rw [r1, r2] at h
    exact h)
  have HUS : Hid ((((w.alloc (.cells #[.int .i64 hi, .int .u64 (k : Int)] 46)).alloc (.cells #[.int .i64 0, .int .u64 0, .int .u64 0, .int .u64 0] 83)).alloc (.cells #[.int .i64 0, .int .u64 0, .int .u64 0, .int .u64 0] 83)).heap.size = w.heap.size + 3) := Lib.hid (by simp)
  have hbd : ∀ w, (Instr.build 83 #[]).run Try.prog w = .ok (.agg #[.int .i64 0, .int .u64 0, .int .u64 0, .int .u64 0]) w := fun w => by kernel_rfl
  obtain ⟨b0, hb0⟩ : ∃ b0, b0 = w.heap.size := ⟨_, rfl⟩
  have HBE := Lib.hid hb0
  rw [← hb0] at HM0 HUS
  clear h
  go_enter Try.func48, Try.ntmps48
  go_upto_region 3 with fail
  change Code.wp _ _ _ _ (((w.alloc (.cells #[.int .i64 hi, .int .u64 (k : Int)] 46)).alloc (.cells #[.int .i64 0, .int .u64 0, .int .u64 0, .int .u64 0] 83)).alloc (.cells #[.int .i64 0, .int .u64 0, .int .u64 0, .int .u64 0] 83))
  rw [← hb0]
  clear hb0 hbd
  generalize (((w.alloc (.cells #[.int .i64 hi, .int .u64 (k : Int)] 46)).alloc (.cells #[.int .i64 0, .int .u64 0, .int .u64 0, .int .u64 0] 83)).alloc (.cells #[.int .i64 0, .int .u64 0, .int .u64 0, .int .u64 0] 83)) = u at *
  obtain ⟨n, hn⟩ : ∃ n, n = L.length := ⟨_, rfl⟩
  have HN := Lib.hid hn
  rw [← hn] at hL
  go_wp2_with fail
  go_loopw [6, 7] (fun o vi wr => ∃ (j : Nat) (D : Option Addr) (dd : Nat), vi = .int .i64 (j : Int) ∧ j ≤ n ∧ o = .slice D (Wh.drop (L.take j) hi k).length dd ∧ OwnC wr (b0 + 3) 83 4 D (Wh.drop (L.take j) hi k).length dd (rwc 4 tmv (Wh.drop (L.take j) hi k)) ∧ Mem w wr [(b0, .cells #[.int .i64 hi, .int .u64 (k : Int)] 46 (0, 0)), (b0 + 1, .cells #[.int .i64 0, .int .u64 0, .int .u64 0, .int .u64 0] 83 (0, 0)), (b0 + 2, .cells (tmv (lastIs (L.take j) hi k)) 83 (0, 0))] ∧ b0 + 3 ≤ wr.heap.size ∧ ((Wh.drop (L.take j) hi k).length = 0 → dd = 0)) (fun _ vi _ => n - (intOf vi).toNat)
  case atStart => exact ⟨0, none, 0, rfl, Nat.zero_le _, rfl, OwnC.nil_ _ _ _ _ _, HM0.out, by rw [HUS.out]; exact Nat.le_refl _, fun _ => rfl⟩
  case round =>
    obtain ⟨j, D, dd, rfl, hj, rfl, ho, hm, hw3, hdd⟩ := hrel
    have HDD := Lib.hid hdd
    clear hdd
    have HO := Lib.hid ho
    have HM := Lib.hid hm
    have HW3 := Lib.hid hw3
    have HX := Lib.hid (HX0.out.step hm.below)
    clear ho hm hw3 HM0 HUS
    have x1 : wr.cell? ⟨q, 1, none⟩ = some (.slice B n d) := by rw [HN.out]; exact blk_cell HX.out.blk 1
    have hd1 := HX.out.d1
    have hd2 := HX.out.d2
    rw [← HN.out] at hd1
    by_cases hjn : j < n
    · have j1 : (j : Int) < (n : Int) := by omega
      have j0 : (0 : Int) ≤ (j : Int) := by omega
      have j2 : ((j : Int)).toNat = j := by omega
      have zj : IntKind.i64.wrap ((j : Int) + 1) = (j : Int) + 1 := by rw [IntKind.wrap_i64]; omega
      obtain ⟨t, ht⟩ : ∃ t, L[j]? = some t := ⟨_, List.getElem?_eq_getElem (by rw [← HN.out]; exact hjn)⟩
      obtain ⟨bb, off, rfl, hbb, hc⟩ := HX.out.row ht
      have hrg : wr.rangeAt bb (off + j * 4) [.int .i64 (t.i : Int), .int .u64 (t.k : Int), .int .u64 (t.at_ : Int), .int .u64 (t.what : Int)] := fun i v hv => by
        match i, hv with
        | 0, hv => rw [← hv]; exact hc 0 (by omega)
        | 1, hv => rw [← hv, Nat.add_assoc]; exact hc 1 (by omega)
        | 2, hv => rw [← hv, Nat.add_assoc]; exact hc 2 (by omega)
        | 3, hv => rw [← hv, Nat.add_assoc]; exact hc 3 (by omega)
      have hrg2 : wr.rangeAt bb (off + j * 4) [.int .i64 (t.i : Int), .int .u64 (t.k : Int)] := fun i v hv => by
        match i, hv with
        | 0, hv => rw [← hv]; exact hc 0 (by omega)
        | 1, hv => rw [← hv, Nat.add_assoc]; exact hc 1 (by omega)
      have HRG := Lib.hid hrg
      have HRG2 : Hid (∀ x, (∃ V : Stay wr, x = V.w) → x.rangeAt bb (off + j * 4) [.int .i64 (t.i : Int), .int .u64 (t.k : Int)]) := Lib.hid (stay_rng hbb hrg2)
      have HBB := Lib.hid hbb
      have heq := eqT t hi k
      have HLS := Lib.hid (lastIs_snoc (L.take j) t hi k)
      have HDS := Lib.hid (drop_snoc (L.take j) t hi k)
      have hle := drop_le (L.take j) hi k
      have hlt : (L.take j).length ≤ 65536 := by rw [List.length_take]; omega
      rw [← tk_snoc ht] at HLS HDS
      have x1s : ∀ V : Stay wr, V.w.cell? ⟨q, 1, none⟩ = some (.slice (some ⟨bb, off, none⟩) n d) := fun V => Stay.cell x1 V
      clear hc hrg hrg2 hbb ht
      go_upto_region 6 with fail
      refine wp_region_stay (by kernel_rfl) (by kernel_rfl) ?_
      repeat (first
        | (refine qh_row rfl 46 (.tmp 3) rfl b0 rfl 46 #[.int .i64 hi, .int .u64 (k : Int)] (0, 0) _ (stay_hp (HM.out.get 0 rfl)) Try.underlying46 rfl (by kernel_rfl) ?_
           simp only [Act.put, List.setIfInBounds_toArray, List.set_cons_zero, List.set_cons_succ])
        | (refine qh_mid rfl 46 (.tmp 24) rfl bb (off + j * 4) rfl #[.int .i64 (t.i : Int), .int .u64 (t.k : Int)] _ HRG2.out Try.underlying46 rfl (by kernel_rfl) ?_
           simp only [Act.put, List.setIfInBounds_toArray, List.set_cons_zero, List.set_cons_succ])
        | go_big_quiet_step (fail))
      refine wpQuiet_nil ?_
      intro w' hw'
      obtain ⟨V, rfl⟩ := hw'
      have HO2 := Lib.hid (HO.out.below V.below)
      have HM2 := Lib.hid (HM.out.step V.below)
      have HW2 := Lib.hid (Nat.le_trans HW3.out V.below.size)
      have HR2 : Hid (V.w.rangeAt bb (off + j * 4) [.int .i64 (t.i : Int), .int .u64 (t.k : Int), .int .u64 (t.at_ : Int), .int .u64 (t.what : Int)]) := Lib.hid (stay_rng HBB.out HRG.out V.w ⟨V, rfl⟩)
      have y1 := x1s V
      clear x1 x1s HRG HRG2 HBB heq HX HM HO HW3
      generalize V.w = u2 at *
      by_cases hb : t.is_ hi k = true
      · rw [hb]
        rw [if_pos hb] at HLS HDS
        clear hb
        go_wp2_with (first
          | (refine wpList_load_mid rfl 83 (.tmp 33) rfl bb (off + j * 4) rfl [.int .i64 (t.i : Int), .int .u64 (t.k : Int), .int .u64 (t.at_ : Int), .int .u64 (t.what : Int)] _ HR2.out Try.underlying83 rfl (by kernel_rfl) ?_)
          | (refine wpList_store_row rfl 83 (.tmp 5) (.tmp 34) rfl (b0 + 2) #[.int .i64 (t.i : Int), .int .u64 (t.k : Int), .int .u64 (t.at_ : Int), .int .u64 (t.what : Int)] rfl rfl 83 (tmv (lastIs (L.take j) hi k)) (HM2.out.get 2 rfl) (by kernel_rfl) rfl (by simp [Value.oneCell']) ?_))
        go_roundw
        case rel =>
          refine ⟨j + 1, D, dd, by go_num, by omega, by rw [HDS.out], ?_, ?_, ?_, by rw [HDS.out]; exact HDD.out⟩
          · rw [HDS.out]
            have hne : ∀ g, D = some ⟨g, 0, none⟩ → (u2.setRow (b0 + 2) #[.int .i64 (t.i : Int), .int .u64 (t.k : Int), .int .u64 (t.at_ : Int), .int .u64 (t.what : Int)]).heap[g]? = u2.heap[g]? := fun g e => setRow_other _ (b0 + 2) g _ (by
              have := HO2.out.at_ g (by rw [e]; rfl)
              omega)
            exact HO2.out.keepAny hne
          · rw [HLS.out]
            exact HM2.out.row 2 rfl _
          · simpa using HW2.out
        case measure => simp [intOf]; omega
      · have hb' : t.is_ hi k = false := by simpa using hb
        rw [hb']
        rw [if_neg hb] at HLS HDS
        clear hb hb'
        obtain ⟨m, hm⟩ : ∃ m, m = (Wh.drop (L.take j) hi k).length := ⟨_, rfl⟩
        have HML := Lib.hid hm
        rw [← hm] at HO2 hle ⊢
        clear hm
        go_upto_region 5 with (first
          | (refine wpList_load_mid rfl 83 (.tmp 41) rfl bb (off + j * 4) rfl [.int .i64 (t.i : Int), .int .u64 (t.k : Int), .int .u64 (t.at_ : Int), .int .u64 (t.what : Int)] _ HR2.out Try.underlying83 rfl (by kernel_rfl) ?_)
          | (at_builtin
             refine wpList_append_vals rfl (.tmp 35) (.tmp 43) 37 rfl (b0 + 3) 83 i0 (.agg #[.int .i64 0, .int .u64 0, .int .u64 0, .int .u64 0]) 4 Try.underlying37 HI0.out HZ0.out HZ1.out rfl (by decide) rfl (HO2.out.alloc (.cells #[.int .i64 (t.i : Int), .int .u64 (t.k : Int), .int .u64 (t.at_ : Int), .int .u64 (t.what : Int)] 83)) (m := 1) (A' := some ⟨u2.heap.size, 0, none⟩) (B := (u2.alloc (.cells #[.int .i64 (t.i : Int), .int .u64 (t.k : Int), .int .u64 (t.at_ : Int), .int .u64 (t.what : Int)] 83)).heap.size) (g := fun i => (tmv t).getD i undef) rfl (.inr ⟨u2.heap.size, 0, rfl, by simp, fun i hi => ?_⟩) (fun i hi => tmv_one t i (by omega)) (by unfold maxLen; omega) (by rw [HZ2.out]; omega) (Nat.le_trans HW2.out (alloc_le u2 _)) ?_
             · rw [Nat.zero_add, blk_cell (heap_alloc_new u2 _) i]
               rcases (show i = 0 ∨ i = 1 ∨ i = 2 ∨ i = 3 by omega) with rfl | rfl | rfl | rfl <;> rfl
             intro D2 dd2 u3 hown hg _
             have HO3 := Lib.hid hown
             have HM3 := Lib.hid (mem_own (HM2.out.step (below_alloc u2 (.cells #[.int .i64 (t.i : Int), .int .u64 (t.k : Int), .int .u64 (t.at_ : Int), .int .u64 (t.what : Int)] 83))) hg (fun kk e => by have h1 := HO2.out.at_ kk e; have h2 := HBE.out; omega) (fun x hx kk e => by
               have h1 := HO2.out.at_ kk e
               rcases List.mem_cons.1 hx with rfl | hx
               · exact fun e2 => by have e2 : b0 = kk := e2; omega
               rcases List.mem_cons.1 hx with rfl | hx
               · exact fun e2 => by have e2 : b0 + 1 = kk := e2; omega
               rcases List.mem_cons.1 hx with rfl | hx
               · exact fun e2 => by have e2 : b0 + 2 = kk := e2; omega
               cases hx))
             have HW4 : Hid (b0 + 3 ≤ u3.heap.size) := Lib.hid (Nat.le_trans HW2.out (Nat.le_trans (alloc_le u2 _) hg.size))
             clear hown hg))
        go_wp2_with fail
        go_roundw
        case rel =>
          have e : (Wh.drop (L.take (j + 1)) hi k).length = m + 1 := by rw [HDS.out, List.length_append, ← HML.out]; rfl
          refine ⟨j + 1, D2, dd2, by go_num, by omega, by rw [e], ?_, ?_, HW4.out, fun h0 => by omega⟩
          · rw [e]
            refine HO3.out.same fun ix hix => ?_
            rw [HDS.out]
            have := rwc_snoc (sz := 4) (by decide) tmv (Wh.drop (L.take j) hi k) t ix (by rw [← HML.out]; exact hix)
            rw [← HML.out] at this
            exact this
          · rw [HLS.out]
            exact HM3.out
        case measure => simp [intOf]; omega
    · obtain rfl : n = j := by omega
      have e1 : L.take n = L := by rw [HN.out]; exact List.take_length
      have e2 := HO.out
      have e3 := HM.out
      have e4 := HDD.out
      rw [e1] at e2 e3 e4 ⊢
      have HD4 := Lib.hid e4
      clear HDD e4
      have HO2 := Lib.hid e2
      have HM2 := Lib.hid e3
      have y1 := blk_free HX.out.blk 1
      have HQL : Hid (q < b0) := Lib.hid (by rw [HBE.out]; exact HX0.out.old q HX0.out.mq)
      obtain ⟨L2, hL2⟩ : ∃ L2, L2 = Wh.drop L hi k := ⟨_, rfl⟩
      obtain ⟨tl, htl⟩ : ∃ tl, tl = lastIs L hi k := ⟨_, rfl⟩
      have HL2 := Lib.hid hL2
      have HTL := Lib.hid htl
      rw [← hL2] at HO2 ⊢
      rw [← htl] at HM2
      obtain ⟨m, hm⟩ : ∃ m, m = L2.length := ⟨_, rfl⟩
      have HML := Lib.hid hm
      rw [← hm] at HO2 ⊢
      have HQ2 : Hid ((wr.setCell ⟨q, 1, none⟩ (.slice D m dd)).heap[q]? = some (.cells #[.pointer (some ⟨r, 0, none⟩), .slice D m dd, .int .u64 (now : Int)] 39 (0, 0))) := Lib.hid (blk_set HX.out.blk 1 _)
      have HB1 : Hid ((wr.setCell ⟨q, 1, none⟩ (.slice D m dd)).heap[b0 + 1]? = some (.cells #[.int .i64 0, .int .u64 0, .int .u64 0, .int .u64 0] 83 (0, 0))) := Lib.hid (blk_far (HM2.out.get 1 rfl) (p := ⟨q, 1, none⟩) (by have := HQL.out; show b0 + 1 ≠ q; omega) _)
      have HB2 : Hid ((wr.setCell ⟨q, 1, none⟩ (.slice D m dd)).heap[b0 + 2]? = some (.cells #[.int .i64 (tl.i : Int), .int .u64 (tl.k : Int), .int .u64 (tl.at_ : Int), .int .u64 (tl.what : Int)] 83 (0, 0))) := Lib.hid (blk_far (HM2.out.get 2 rfl) (p := ⟨q, 1, none⟩) (by have := HQL.out; show b0 + 2 ≠ q; omega) _)
      have HK2 : Hid (Kept (fun k => k = q) w (wr.setCell ⟨q, 1, none⟩ (.slice D m dd))) := Lib.hid (Kept.setCell (R := fun k => k = q) (Kept.of_below HM2.out.below _) (p := ⟨q, 1, none⟩) (.inl rfl) _)
      have HO3 : Hid (OwnC (wr.setCell ⟨q, 1, none⟩ (.slice D m dd)) (b0 + 3) 83 4 D m dd (rwc 4 tmv L2)) := Lib.hid (HO2.out.far (p := ⟨q, 1, none⟩) (by have := HQL.out; show q < b0 + 3; omega) _)
      clear hL2 htl hm HX0 HX HO2 HM2
      go_upto_region 10 with fail
      clear x1 y1
      generalize wr.setCell ⟨q, 1, none⟩ (.slice D m dd) = u5 at *
      go_wp2_with (first
        | (refine wpList_load_row rfl 83 (.tmp 5) rfl (b0 + 2) rfl 83 #[.int .i64 (tl.i : Int), .int .u64 (tl.k : Int), .int .u64 (tl.at_ : Int), .int .u64 (tl.what : Int)] (0, 0) _ HB2.out Try.underlying83 rfl (by kernel_rfl) ?_)
        | (refine wpList_store_row rfl 83 (.tmp 4) (.tmp 49) rfl (b0 + 1) #[.int .i64 (tl.i : Int), .int .u64 (tl.k : Int), .int .u64 (tl.at_ : Int), .int .u64 (tl.what : Int)] rfl rfl 83 #[.int .i64 0, .int .u64 0, .int .u64 0, .int .u64 0] HB1.out (by kernel_rfl) rfl (by simp [Value.oneCell']) ?_))
      refine bodyPost_ret (v := .agg #[.int .i64 (tl.i : Int), .int .u64 (tl.k : Int), .int .u64 (tl.at_ : Int), .int .u64 (tl.what : Int)]) (results_cell_row Try.results48 _ _ (b0 + 1) 83 #[.int .i64 (tl.i : Int), .int .u64 (tl.k : Int), .int .u64 (tl.at_ : Int), .int .u64 (tl.what : Int)] (0, 0) _ rfl (setRow_heap _ (b0 + 1) _ #[.int .i64 (tl.i : Int), .int .u64 (tl.k : Int), .int .u64 (tl.at_ : Int), .int .u64 (tl.what : Int)] _ _ HB1.out) Try.underlying83 rfl (by kernel_rfl)) rfl ?_
      refine ⟨by rw [← HTL.out]; rfl, D, dd, HD4.out, ?_, ?_, HK2.out.setRow (.inr (by rw [HBE.out]; omega)) _⟩
      · rw [← HL2.out, ← HML.out]
        exact (setRow_other _ (b0 + 1) q _ (by have := HQL.out; omega)).trans HQ2.out
      · rw [← HL2.out, ← HML.out]
        exact (HO3.out.keepAny fun g e => setRow_other _ (b0 + 1) g _ (by have := HO3.out.at_ g (by rw [e]; rfl); omega)).le (by rw [HBE.out]; omega)
end
end Go.Proofs.Ytkmakdhlaenaoaa
/- An append onto a fresh row of nothing: over any program. -/
namespace Go.Proofs.Ytkmakdhlaenaoaa
open Go Go.RowKit
section
variable {P : Program}
theorem run_append_first {w : World} (base : Nat) (t ty e : TypeId) (i : TypeInfo) (z : Value) (size : Nat) (ht : P.underlying t = some (.slice e)) (hi : P.info? e = some i) (hz : i.zero = some z) (hsize : i.size = size) (hzs : z.cells.size = size)
    {zb b off m c' : Nat} {g : Nat → Value} (hm : 0 < m) (hr : ∀ k, k < m * size → w.cell? ⟨b, off + k, none⟩ = some (g k))
    (hlen : m ≤ maxLen) (hby : m * i.bytes ≤ 140737488355328) (hbase : base ≤ w.heap.size) :
    ∃ c2 w', (Builtin.append_ #[t, t] ty #[.slice (some ⟨zb, 0, none⟩) 0 0, .slice (some ⟨b, off, none⟩) m c']).run P w = .ok (.slice (some ⟨w.heap.size, 0, none⟩) m c2) w' ∧ OwnC w' base e size (some ⟨w.heap.size, 0, none⟩) m c2 g ∧ Below w.heap.size w w' := by
  have hnl : (vals (m * size) g).length = m * size := vals_len ..
  have hcells : ∀ j u, (vals (m * size) g)[j]? = some u → w.cell? ((⟨b, off, none⟩ : Addr).add j) = some u := fun j u hu => by
    have hj : j < m * size := by
      rcases Nat.lt_or_ge j (m * size) with q | q
      · exact q
      · rw [List.getElem?_eq_none (by rw [vals_len]; exact q)] at hu
        cases hu
    rw [vals_get hj] at hu
    injection hu with hu
    subst hu
    rw [Addr.add_lit]
    exact hr j hj
  subst hsize
  have hlen9 : m ≤ 9223372036854775807 := by unfold maxLen at hlen; omega
  have hx : vals (0 * i.size) g = [] := List.eq_nil_of_length_eq_zero (by rw [vals_len]; simp)
  have hrg := run_append_grow (P := P) w t ty e i z ht hi hz ⟨zb, 0, none⟩ 0 0 (vals (0 * i.size) g) (by rw [vals_len]) (fun j u hu => by rw [hx] at hu; cases hu) ⟨b, off, none⟩ m c' (vals (m * i.size) g) hnl hcells (by omega) (by omega) (growslice_fits (by omega) (by rw [Nat.zero_add]; exact hby))
  rw [hx] at hrg
  simp only [Nat.zero_add, Array.empty_append] at hrg
  have hge := grownCap_ge w m 0 e
  have hcm : grownCap w m 0 e ≤ maxLen := grownCap_le_maxLen w m 0 e hlen
  refine ⟨_, _, hrg, ⟨hnl, .inr ⟨w.heap.size, _, _, rfl, hbase, heap_alloc_new w.drew _, hge, hcm, ?_, ?_⟩⟩, (Below.refl w.heap.size w).drew.alloc (Nat.le_refl _) _⟩
  · simp only [Array.size_append, List.size_toArray, size_zeroCells, hzs, vals_len]
    rw [← Nat.add_mul]
    congr 1
    omega
  · simp only [Array.toList_append]
    exact List.take_left' hnl
end
end Go.Proofs.Ytkmakdhlaenaoaa
