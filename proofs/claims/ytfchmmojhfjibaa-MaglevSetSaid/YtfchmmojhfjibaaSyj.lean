/- Stage 19: the landed May's parts: worlds that have only grown. -/
import Derived.Shelf.SlSortCmp.QuietGrown
import Derived.Test.YtfchmmojhfjibaaMgo
namespace Go.Proofs.Ytfchmmojhfjibaa
set_option maxRecDepth 100000
open Go.RowKit Go.Shelf
/-- Some blocks more, some draws more. -/
def Gw (w w' : World) : Prop := ∃ q os, w' = Sort.grow (w.drewN q) os
theorem Gw.refl (w : World) : Gw w w := ⟨0, #[], by rw [Sort.grow_empty]; rfl⟩
theorem Gw.more {w w' : World} (h : Gw w w') (q : Nat) (os : Array Obj) : Gw w (Sort.grow (w'.drewN q) os) := by
  obtain ⟨q0, os0, rfl⟩ := h
  exact ⟨q0 + q, os0 ++ os, by show Sort.grow (Sort.grow ((w.drewN q0).drewN q) os0) os = _; rw [Sort.grow_grow, World.drewN_drewN]⟩
theorem Gw.alloc {w w' : World} (h : Gw w w') (o : Obj) : Gw w (w'.alloc o) := by
  have := h.more 0 #[o]
  rw [Sort.alloc_eq_grow]
  exact this
theorem Gw.trans {w w' w'' : World} (h : Gw w w') (k : Gw w' w'') : Gw w w'' := by
  obtain ⟨q, os, rfl⟩ := k
  exact h.more q os
theorem Gw.below {w w' : World} (h : Gw w w') : Below w.heap.size w w' := by
  obtain ⟨q, os, rfl⟩ := h
  refine ⟨rfl, rfl, rfl, ?_, fun k hk => ?_⟩
  · rw [Sort.size_grow]
    exact Nat.le_add_right _ _
  · rw [Sort.heap_grow_old _ _ (show k < (w.drewN q).heap.size from hk)]
    rfl
/-- What a call asks that a drawn region makes. -/
theorem Gw.call {f : FuncId} {args : Array Value} {w : World} {n : Nat} {os : Array Obj} {v : Value} (h : Calls Try.prog f args (Sort.grow (w.drewN n) os) fun e w' => e = .returned v ∧ Gw (Sort.grow (w.drewN n) os) w') : Calls Try.prog f args (Sort.grow (w.drewN n) os) fun e w' => e = .returned v ∧ ∃ q os', w' = Sort.grow ((Sort.grow (w.drewN n) os).drewN q) os' := h
noncomputable def oneB (s : ByteArray) (v : Int) : Bool := @decide (oneW ⟨s, v⟩) (Classical.propDecidable _)
theorem oneB_iff {s : ByteArray} {v : Int} : oneB s v = true ↔ oneW ⟨s, v⟩ := by
  classical
  unfold oneB
  exact decide_eq_true_iff
theorem oneB_no {s : ByteArray} {v : Int} (h : ¬ oneW ⟨s, v⟩) : oneB s v = false := by
  rw [← Bool.not_eq_true, oneB_iff]
  exact h
set_option maxHeartbeats 1000000 in
theorem pmay1 (s : ByteArray) (v : Int) (w : World) : Calls Try.prog 20 #[.agg #[.string s, .int .i64 v]] w fun e w' => e = .returned (.bool (oneB s v)) ∧ Gw w w' := by
  have HG : Hid (Gw w (w.alloc (.cells #[.string s, .int .i64 v] 34))) := Lib.hid ((Gw.refl w).alloc _)
  have HB : Hid ((w.alloc (.cells #[.string s, .int .i64 v] 34)).heap[w.heap.size]? = some (.cells #[.string s, .int .i64 v] 34 (0, 0))) := Lib.hid (heap_alloc_new w _)
  have HT := Lib.hid (@oneB_iff s v)
  have HF := Lib.hid (@oneB_no s v)
  have HE := Lib.hid (em_str s)
  obtain ⟨R, hR⟩ : ∃ R, R = oneB s v := ⟨_, rfl⟩
  rw [← hR] at HT HF ⊢
  clear hR
  go_enter Try.func20, Try.ntmps20
  go_upto_region 1 with fail
  change Code.wp _ _ _ _ (w.alloc (.cells #[.string s, .int .i64 v] 34))
  obtain ⟨b, hb⟩ : ∃ b, b = w.heap.size := ⟨_, rfl⟩
  rw [← hb] at HB ⊢
  clear hb
  generalize w.alloc (.cells #[.string s, .int .i64 v] 34) = u at *
  have x0 := blk_cell HB.out 0
  have x1 := blk_cell HB.out 1
  by_cases e1 : s.size = 0
  · have q0 : s.toList = [] := by rw [HE.out]; exact e1
    obtain rfl : R = false := HF.out fun q => q.1 e1
    clear e1
    go_wp2_with fail
    go_ret
    exact ⟨rfl, HG.out⟩
  have q0 : ¬ s.toList = [] := by rw [HE.out]; exact e1
  have q1 : s.toList.isEmpty = false := by cases hq : s.toList with | nil => exact absurd hq q0 | cons _ _ => rfl
  by_cases e2 : s.size ≤ 16
  · have d2 : (s.size : Int) ≤ 16 := by omega
    by_cases e3 : 0 ≤ v
    · by_cases e4 : v ≤ 100
      · obtain rfl : R = true := HT.out.2 ⟨e1, e2, e3, e4⟩
        clear e1 e2
        go_wp2_with fail
        go_ret
        exact ⟨rfl, HG.out⟩
      · obtain rfl : R = false := HF.out fun q => e4 q.2.2.2
        have d4 : ¬ v ≤ 100 := e4
        clear e1 e2
        go_wp2_with fail
        go_ret
        exact ⟨rfl, HG.out⟩
    · obtain rfl : R = false := HF.out fun q => e3 q.2.2.1
      clear e1 e2
      go_wp2_with fail
      go_ret
      exact ⟨rfl, HG.out⟩
  · have d2 : ¬ (s.size : Int) ≤ 16 := by omega
    obtain rfl : R = false := HF.out fun q => e2 q.2.1
    clear e1 e2
    go_wp2_with fail
    go_ret
    exact ⟨rfl, HG.out⟩
set_option maxHeartbeats 1000000 in
/-- The closure: a backend's name against one. -/
theorem pnamed1 (s nm : ByteArray) (v : Int) (b : Nat) (w : World) (h : w.cell? ⟨b, 0, none⟩ = some (.string nm)) (hbl : b < w.heap.size) : Calls Try.prog 34 #[.agg #[.string s, .int .i64 v], .pointer (some ⟨b, 0, none⟩)] w fun e w' => e = .returned (.bool (s.toList == nm.toList)) ∧ Gw w w' := by
  have HG : Hid (Gw w (w.alloc (.cells #[.string s, .int .i64 v] 34))) := Lib.hid ((Gw.refl w).alloc _)
  have HB : Hid ((w.alloc (.cells #[.string s, .int .i64 v] 34)).heap[w.heap.size]? = some (.cells #[.string s, .int .i64 v] 34 (0, 0))) := Lib.hid (heap_alloc_new w _)
  have y0 := ((below_alloc w (.cells #[.string s, .int .i64 v] 34)).cell (p := ⟨b, 0, none⟩) hbl).trans h
  clear h
  go_enter Try.func34, Try.ntmps34
  go_upto_region 1 with fail
  change Code.wp _ _ _ _ (w.alloc (.cells #[.string s, .int .i64 v] 34))
  obtain ⟨c, hc⟩ : ∃ c, c = w.heap.size := ⟨_, rfl⟩
  rw [← hc] at HB ⊢
  clear hc
  generalize w.alloc (.cells #[.string s, .int .i64 v] 34) = u at *
  have x0 := blk_cell HB.out 0
  go_wp2_with fail
  go_ret
  exact ⟨rfl, HG.out⟩
/-- One of the first k has the name. -/
noncomputable def nmE (l : List Wt) (k : Nat) (nm : ByteArray) : Bool := @decide (∃ x, x < k ∧ (wa l x).s = nm) (Classical.propDecidable _)
theorem nmE_yes {l : List Wt} {k x : Nat} {nm : ByteArray} (h : x < k) (e : (wa l x).s = nm) : nmE l k nm = true := by
  unfold nmE
  exact @decide_eq_true _ (Classical.propDecidable _) ⟨x, h, e⟩
theorem nmE_no {l : List Wt} {k : Nat} {nm : ByteArray} (h : ∀ x, x < k → (wa l x).s ≠ nm) : nmE l k nm = false := by
  unfold nmE
  exact @decide_eq_false _ (Classical.propDecidable _) fun ⟨x, h1, h2⟩ => h x h1 h2
theorem nmE_iff {l : List Wt} {k : Nat} {nm : ByteArray} : nmE l k nm = true ↔ ∃ x, x < k ∧ (wa l x).s = nm := by
  unfold nmE
  exact @decide_eq_true_iff _ (Classical.propDecidable _)
set_option maxHeartbeats 1000000 in
theorem pindex_any (l : List Wt) (A : Option Addr) (k c : Nat) (nm : ByteArray) (b : Nat) (w : World) (hr : RdC w w.heap.size A (k * 2) (wf l)) (hk9 : k ≤ 100000) (hx : w.cell? ⟨b, 0, none⟩ = some (.string nm)) (hbl : b < w.heap.size) : Calls Try.prog 44 #[.slice A k c, .func (.func 34) #[] #[.pointer (some ⟨b, 0, none⟩)]] w fun e w' => ∃ v : Int, e = .returned (.int .i64 v) ∧ decide (0 ≤ v) = nmE l k nm ∧ Gw w w' := by
  have HR := Lib.hid hr
  have HX := Lib.hid hx
  have HN := Lib.hid (@nmE_no l k nm)
  have HY : Hid (∀ x, x < k → (wa l x).s = nm → nmE l k nm = true) := Lib.hid fun x h e => nmE_yes h e
  obtain ⟨R, hR⟩ : ∃ R, R = nmE l k nm := ⟨_, rfl⟩
  rw [← hR] at HN HY ⊢
  have HC : Hid (∀ (i : Nat) (W : World), Gw w W → Calls Try.prog 34 #[.agg #[.string (wa l i).s, .int .i64 (wa l i).w], .pointer (some ⟨b, 0, none⟩)] W fun e w' => e = .returned (.bool ((wa l i).s.toList == nm.toList)) ∧ Gw W w') := Lib.hid fun i W h => pnamed1 _ nm _ b W ((h.below.cell (p := ⟨b, 0, none⟩) hbl).trans hx) (Nat.lt_of_lt_of_le hbl h.below.size)
  clear hR hr hx
  go_enter Try.func44, Try.ntmps44
  go_wp2_with fail
  go_loopw [5, 8] (fun _ vi wr => ∃ i : Nat, i ≤ k ∧ vi = .int .i64 (i : Int) ∧ (∀ x, x < i → (wa l x).s ≠ nm) ∧ Gw w wr) (fun _ vi _ => k - (intOf vi).toNat)
  case atStart => exact ⟨0, Nat.zero_le _, rfl, fun x hx => by omega, Gw.refl _⟩
  case round =>
    obtain ⟨i, hi, rfl, hne, hg⟩ := hrel
    have HG := Lib.hid hg
    have HNE := Lib.hid hne
    clear hne
    by_cases hlt : i < k
    · have l1 : (i : Int) < (k : Int) := by omega
      have i0 : (0 : Int) ≤ (i : Int) := by omega
      have i2 : ((i : Int)).toNat = i := by omega
      have zi : IntKind.i64.wrap ((i : Int) + 1) = (i : Int) + 1 := by rw [IntKind.wrap_i64]; omega
      rcases HR.out with h0 | ⟨a, ao, rfl, ha, hca⟩
      · omega
      have x0 := (hg.below.cell (p := ⟨a, ao + i * 2, none⟩) ha).trans ((hca (i * 2) (by omega)).trans (by rw [wf_s]))
      have x1 := (hg.below.cell (p := ⟨a, ao + i * 2 + 1, none⟩) ha).trans (show w.cell? ⟨a, ao + i * 2 + 1, none⟩ = some (.int .i64 (wa l i).w) by rw [Nat.add_assoc, hca (i * 2 + 1) (by omega), wf_w])
      have HCI := Lib.hid (HC.out i wr hg)
      have HE := Lib.hid (tl_beq (wa l i).s nm)
      have HYI := Lib.hid (HY.out i hlt)
      have HNI : Hid ((wa l i).s ≠ nm → ∀ x, x < i + 1 → (wa l x).s ≠ nm) := Lib.hid fun q x hx => by
        rcases (show x < i ∨ x = i by omega) with r | rfl
        · exact HNE.out x r
        · exact q
      obtain ⟨s, hs⟩ : ∃ s, s = (wa l i).s := ⟨_, rfl⟩
      obtain ⟨v, hv⟩ : ∃ v, v = (wa l i).w := ⟨_, rfl⟩
      rw [← hs] at x0 HCI HE HYI HNI
      rw [← hv] at x1 HCI
      clear hs hv hca ha hg
      by_cases e : s = nm
      · have HT : Hid (R = true) := Lib.hid (HYI.out e)
        have HE2 : Hid ((s.toList == nm.toList) = true) := Lib.hid (by rw [HE.out]; exact decide_eq_true e)
        rw [HE2.out] at HCI
        clear e HE HYI HNI
        go_wp2_with (first
          | (go_at_call 34
             refine HCI.out.mono ?_
             rintro e u ⟨rfl, hg⟩
             have HG2 := Lib.hid (HG.out.trans hg)
             clear hg))
        go_ret
        exact ⟨(i : Int), rfl, by rw [HT.out]; exact decide_eq_true i0, HG2.out⟩
      · have HE2 : Hid ((s.toList == nm.toList) = false) := Lib.hid (by rw [HE.out]; exact decide_eq_false e)
        have HNJ := Lib.hid (HNI.out e)
        rw [HE2.out] at HCI
        clear e HE HYI HNI
        go_wp2_with (first
          | (go_at_call 34
             refine HCI.out.mono ?_
             rintro e u ⟨rfl, hg⟩
             have HG2 := Lib.hid (HG.out.trans hg)
             clear hg))
        go_roundw
        case rel => exact ⟨i + 1, by omega, by go_num, HNJ.out, HG2.out⟩
        case measure => simp [intOf]; omega
    · obtain rfl : i = k := by omega
      clear hg
      have HT : Hid (R = false) := Lib.hid (HN.out HNE.out)
      go_wp2_with fail
      go_ret
      exact ⟨-1, rfl, by rw [HT.out]; rfl, HG.out⟩
set_option maxHeartbeats 1000000 in
theorem pnamed_any (l : List Wt) (A : Option Addr) (k c : Nat) (nm : ByteArray) (w : World) (hr : RdC w w.heap.size A (k * 2) (wf l)) (hk9 : k ≤ 100000) : Calls Try.prog 21 #[.slice A k c, .string nm] w fun e w' => e = .returned (.bool (nmE l k nm)) ∧ Gw w w' := by
  have HG : Hid (Gw w (w.alloc (.cells #[.string nm] 9))) := Lib.hid ((Gw.refl w).alloc _)
  have HI : Hid (∀ b, b = w.heap.size → Calls Try.prog 33 #[.slice A k c, .func (.func 34) #[] #[.pointer (some ⟨b, 0, none⟩)]] (w.alloc (.cells #[.string nm] 9)) fun e w' => e = .returned (.bool (nmE l k nm)) ∧ Gw (w.alloc (.cells #[.string nm] 9)) w') := Lib.hid fun b hb => by
    have hw : (w.alloc (.cells #[.string nm] 9)).heap.size = w.heap.size + 1 := by simp
    have HQ := Lib.hid (pindex_any l A k c nm b (w.alloc (.cells #[.string nm] 9)) ((hr.keep (below_alloc w _)).more (by omega)) hk9 (by rw [hb]; exact blk_cell (heap_alloc_new w _) 0) (by omega))
    generalize w.alloc (.cells #[.string nm] 9) = u at *
    obtain ⟨R, hR⟩ : ∃ R, R = nmE l k nm := ⟨_, rfl⟩
    rw [← hR] at HQ ⊢
    clear hR hr HG hw hb
    go_enter Try.func33, Try.ntmps33
    go_wp2_with (first
      | (go_at_call 44
         refine HQ.out.mono ?_
         rintro e u2 ⟨v, rfl, hv, hg⟩
         have HG2 := Lib.hid hg
         have HV := Lib.hid hv
         clear hg hv))
    go_ret
    exact ⟨by (rw [← HV.out] <;> rfl), HG2.out⟩
  obtain ⟨R, hR⟩ : ∃ R, R = nmE l k nm := ⟨_, rfl⟩
  rw [← hR] at HI ⊢
  clear hR hr
  go_enter Try.func21, Try.ntmps21
  go_upto_region 1 with fail
  change Code.wp _ _ _ _ (w.alloc (.cells #[.string nm] 9))
  obtain ⟨b, hb⟩ : ∃ b, b = w.heap.size := ⟨_, rfl⟩
  have HI2 := Lib.hid (HI.out b hb)
  rw [← hb]
  clear hb HI
  generalize w.alloc (.cells #[.string nm] 9) = u at *
  go_wp2_with (first
    | (go_at_call 33
       refine HI2.out.mono ?_
       rintro e u2 ⟨rfl, hg⟩
       have HG2 := Lib.hid (HG.out.trans hg)
       clear hg))
  go_ret
  exact ⟨rfl, HG2.out⟩
end Go.Proofs.Ytfchmmojhfjibaa
