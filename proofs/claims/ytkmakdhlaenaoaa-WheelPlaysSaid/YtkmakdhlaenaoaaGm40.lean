import Derived.Test.YtkmakdhlaenaoaaGm39
import Derived.Test.YtkmakdhlaenaoaaGm9
/- Stage 11: the play's call: Cancel, Skip; the choice of states. -/
namespace Go.Proofs.Ytkmakdhlaenaoaa
set_option maxRecDepth 100000
open Go.RowKit Go.Shelf
def iffW (b : Bool) (t s : Wh) : Wh := if b = true then t else s
theorem iffW_ne {l : Array Bool} {i j : Nat} (h : j ≠ i) (t s : Wh) : iffW ((l.setIfInBounds i true).getD j false) t s = iffW (l.getD j false) t s := by rw [getD_set h]
theorem iffW_at {l : Array Bool} {i : Nat} (h : l.getD i true = false) (t s : Wh) : iffW ((l.setIfInBounds i true).getD i false) t s = t := by
  rw [getD_set_self h]
  rfl
theorem Wh.again_now (s : Wh) (i : Int) (k a : Nat) : (s.again i k a).now = s.now := by
  unfold Wh.again
  split
  · rfl
  · split <;> rfl
theorem Wh.cancel_now (s : Wh) (i : Int) (k : Nat) : (s.cancel i k).now = s.now := by
  unfold Wh.cancel
  split <;> rfl
section
variable {w W : World} {X : Nat → Prop} {b p q : Nat} {E : Option Addr} {hc tk : Nat} {hs : List (Nat × Nat)} {s : Wh} {m : Nat}
set_option maxHeartbeats 2000000 in
theorem call_3 (h : PL w X W b p q E hc hs tk s s) (hf : s.Fit m) (hm : m < 4611686018427387904) (hl : hs.length ≤ 65535) (hh : Int) (h9 : hh ≤ 9223372036854775807) (at_ what : Nat) (ha : at_ < 18446744073709551616) : Calls Try.prog 10 #[.pointer (some ⟨b, 0, none⟩), .agg #[.int .i64 3, .int .i64 hh, .int .u64 (at_ : Int), .int .u64 (what : Int)]] W (CallEnd w W X b hs tk m) := by
  obtain ⟨gi, gk, hform⟩ := hndOf_form hs hh what
  have HHF := Lib.hid hform
  have HF := Lib.hid hf
  have HP1 := Lib.hid (h.box (.cells #[.int .i64 3, .int .i64 hh, .int .u64 (at_ : Int), .int .u64 (what : Int)] 41))
  have HO1 : Hid ((W.alloc (.cells #[.int .i64 3, .int .i64 hh, .int .u64 (at_ : Int), .int .u64 (what : Int)] 41)).heap[W.heap.size]? = some (.cells #[.int .i64 3, .int .i64 hh, .int .u64 (at_ : Int), .int .u64 (what : Int)] 41 (0, 0))) := Lib.hid (heap_alloc_new W _)
  have HX1 : Hid (∀ j, X j → (W.alloc (.cells #[.int .i64 3, .int .i64 hh, .int .u64 (at_ : Int), .int .u64 (what : Int)] 41)).heap[j]? = W.heap[j]?) := Lib.hid fun j hj => (below_alloc W (.cells #[.int .i64 3, .int .i64 hh, .int .u64 (at_ : Int), .int .u64 (what : Int)] 41)).block j (h.xo j hj)
  obtain ⟨ob, hob⟩ : ∃ ob, ob = W.heap.size := ⟨_, rfl⟩
  rw [← hob] at HO1 HP1
  clear h hf hform
  go_enter Try.func10, Try.ntmps10
  go_upto_region 1 with fail
  change Code.wp _ _ _ _ (W.alloc (.cells #[.int .i64 3, .int .i64 hh, .int .u64 (at_ : Int), .int .u64 (what : Int)] 41))
  rw [← hob]
  clear hob
  generalize W.alloc (.cells #[.int .i64 3, .int .i64 hh, .int .u64 (at_ : Int), .int .u64 (what : Int)] 41) = u1 at *
  have HHD := Lib.hid (handle_all HP1.out hl (3) hh h9 at_ what)
  rw [HHF.out] at HHD
  go_upto_region 2 with (first
    | (refine wpList_load_row rfl 41 (.tmp 3) rfl ob rfl 41 #[.int .i64 3, .int .i64 hh, .int .u64 (at_ : Int), .int .u64 (what : Int)] (0, 0) _ HO1.out Try.underlying41 rfl (by kernel_rfl) ?_)
    | (go_at_call 24
       refine HHD.out.mono ?_
       rintro e u2 ⟨rfl, hb⟩
       have HP2 := Lib.hid (HP1.out.step hb)
       have HO2 := Lib.hid (box_step HO1.out hb)
       have HX2 : Hid (∀ j, X j → u2.heap[j]? = W.heap[j]?) := Lib.hid fun j hj => (hb.block j (HP1.out.xo j (.inl hj))).trans (HX1.out j hj)
       clear hb HP1 HO1 HX1 HHD))
  have HP := Lib.hid (HP2.out.box (.cells #[.int .i64 gi, .int .u64 (gk : Int)] 46))
  have HO := Lib.hid (box_step HO2.out (below_alloc u2 (.cells #[.int .i64 gi, .int .u64 (gk : Int)] 46)))
  have HH : Hid ((u2.alloc (.cells #[.int .i64 gi, .int .u64 (gk : Int)] 46)).heap[u2.heap.size]? = some (.cells #[.int .i64 gi, .int .u64 (gk : Int)] 46 (0, 0))) := Lib.hid (heap_alloc_new u2 _)
  have HX : Hid (∀ j, X j → (u2.alloc (.cells #[.int .i64 gi, .int .u64 (gk : Int)] 46)).heap[j]? = W.heap[j]?) := Lib.hid fun j hj => ((below_alloc u2 (.cells #[.int .i64 gi, .int .u64 (gk : Int)] 46)).block j (HP2.out.xo j (.inl hj))).trans (HX2.out j hj)
  clear HP2 HO2 HX2 HHF
  change Code.wp _ _ _ _ (u2.alloc (.cells #[.int .i64 gi, .int .u64 (gk : Int)] 46))
  generalize u2.heap.size = gb at *
  generalize u2.alloc (.cells #[.int .i64 gi, .int .u64 (gk : Int)] 46) = u3 at *
  have y0 : u3.cell? ⟨ob, 0, none⟩ = some (.int .i64 (3)) := blk_cell HO.out 0
  have y2 : u3.cell? ⟨ob, 2, none⟩ = some (.int .u64 (at_ : Int)) := blk_cell HO.out 2
  have y3 : u3.cell? ⟨ob, 3, none⟩ = some (.int .u64 (what : Int)) := blk_cell HO.out 3
  have HNW : Hid (∀ b : Bool, (iffW b (s.cancel gi gk) s).now = s.now) := Lib.hid fun b => by
    cases b
    · rfl
    · exact Wh.cancel_now s gi gk
  go_upto_region 8 with fail
  clear y0 y2 y3
  rename_i Kc hKc
  refine wp_region_invG (fun a0 l a W => l.size = 14 ∧ a0.tmps.size = 155 ∧ PL w (fun k => (X k ∨ k = ob) ∨ k = gb) W b p q E hc hs tk (iffW (l.getD 5 false) (s.cancel gi gk) s) (iffW (l.getD 11 false) (s.cancel gi gk) s) ∧ (∀ j, (fun k => (X k ∨ k = ob) ∨ k = gb) j → W.heap[j]? = u3.heap[j]?) ∧ FrU a0 ([(0, 66, .pointer (some ⟨b, 0, none⟩)), (1, 67, .pointer (some ⟨b, 0, none⟩)), (2, 68, .pointer (some ⟨b, 0, none⟩)), (3, 69, .pointer (some ⟨p, 0, none⟩)), (4, 70, .agg #[.int .i64 gi, .int .u64 (gk : Int)]), (5, 71, .int .i64 (s.cancelE gi gk)), (6, 72, .pointer (some ⟨b, 0, none⟩)), (7, 73, .pointer (some ⟨b, 0, none⟩)), (8, 74, .pointer (some ⟨b, 1, none⟩)), (9, 75, .pointer (some ⟨q, 0, none⟩)), (10, 76, .agg #[.int .i64 gi, .int .u64 (gk : Int)]), (11, 77, .int .i64 (s.cancelE gi gk)), (12, 78, .bool true), (13, 4, .bool true)] : List (Nat × Nat × Value)) l a) ?_ ?_ ?_ ?_ ?_ ?_
  · kernel_rfl
  · exact fun _ _ _ h => h.1
  · kernel_rfl
  · exact ⟨by simp, rfl, by rw [getD_none, getD_none]; exact HP.out.step (Below.refl _ _).drew, fun _ _ => rfl, FrU.start _ _ _⟩
  · intro l a W i5 o hI ho hn hdep
    obtain ⟨hl, hsz, hT, hK, hF⟩ := hI
    have x0 : W.cell? ⟨b, 0, none⟩ = some (.pointer (some ⟨p, 0, none⟩)) := blk_cell hT.blk 0
    have x1 : W.cell? ⟨b, 1, none⟩ = some (.pointer (some ⟨q, 0, none⟩)) := blk_cell hT.blk 1
    have xn : W.cell? ⟨q, 2, none⟩ = some (.int .u64 (s.now : Int)) := by
      have h1 := hT.nowc.1
      rw [HNW.out] at h1
      exact h1
    have y2 : W.cell? ⟨ob, 2, none⟩ = some (.int .u64 (at_ : Int)) := blk_cell ((hK ob (.inl (.inr rfl))).trans HO.out) 2
    have g0 : W.cell? ⟨gb, 0, none⟩ = some (.int .i64 gi) := blk_cell ((hK gb (.inr rfl)).trans HH.out) 0
    have g1 : W.cell? ⟨gb, 1, none⟩ = some (.int .u64 (gk : Int)) := blk_cell ((hK gb (.inr rfl)).trans HH.out) 1
    match i5, ho, hn with
    | 0, ho, hn =>
      simp only [List.getElem?_toArray, List.getElem?_cons_zero, List.getElem?_cons_succ, Option.some.injEq] at ho
      subst ho
      refine ⟨rfl, ?_⟩
      have h0 : a.tmps[0]?.getD undef = .pointer (some ⟨b, 0, none⟩) := hF.base 0 (by simp) rfl
      exact owp_value (.pointer (some ⟨b, 0, none⟩)) (w' := W) (by clear hdep; go_simp) ⟨by simp [hl], hsz, by rw [iffW_ne (by decide), iffW_ne (by decide)]; exact hT, hK, hF.put 0 66 _ (by rw [hsz]; decide) (by simp) (by simp) (by simp)⟩
    | 1, ho, hn =>
      simp only [List.getElem?_toArray, List.getElem?_cons_zero, List.getElem?_cons_succ, Option.some.injEq] at ho
      subst ho
      refine ⟨rfl, ?_⟩
      have h66 := hF.slot (i := 0) (s := 66) (v := .pointer (some ⟨b, 0, none⟩)) (by simp) (hdep ⟨0, .data⟩ (by simp) rfl)
      exact owp_value (.pointer (some ⟨b, 0, none⟩)) (w' := W) (by clear hdep; go_simp) ⟨by simp [hl], hsz, by rw [iffW_ne (by decide), iffW_ne (by decide)]; exact hT, hK, hF.put 1 67 _ (by rw [hsz]; decide) (by simp) (by simp) (by simp)⟩
    | 2, ho, hn =>
      simp only [List.getElem?_toArray, List.getElem?_cons_zero, List.getElem?_cons_succ, Option.some.injEq] at ho
      subst ho
      refine ⟨rfl, ?_⟩
      have h67 := hF.slot (i := 1) (s := 67) (v := .pointer (some ⟨b, 0, none⟩)) (by simp) (hdep ⟨1, .data⟩ (by simp) rfl)
      exact owp_value (.pointer (some ⟨b, 0, none⟩)) (w' := W) (by clear hdep; go_simp) ⟨by simp [hl], hsz, by rw [iffW_ne (by decide), iffW_ne (by decide)]; exact hT, hK, hF.put 2 68 _ (by rw [hsz]; decide) (by simp) (by simp) (by simp)⟩
    | 3, ho, hn =>
      simp only [List.getElem?_toArray, List.getElem?_cons_zero, List.getElem?_cons_succ, Option.some.injEq] at ho
      subst ho
      refine ⟨rfl, ?_⟩
      have h68 := hF.slot (i := 2) (s := 68) (v := .pointer (some ⟨b, 0, none⟩)) (by simp) (hdep ⟨2, .data⟩ (by simp) rfl)
      exact owp_value (.pointer (some ⟨p, 0, none⟩)) (w' := W) (by clear hdep; go_simp) ⟨by simp [hl], hsz, by rw [iffW_ne (by decide), iffW_ne (by decide)]; exact hT, hK, hF.put 3 69 _ (by rw [hsz]; decide) (by simp) (by simp) (by simp)⟩
    | 4, ho, hn =>
      simp only [List.getElem?_toArray, List.getElem?_cons_zero, List.getElem?_cons_succ, Option.some.injEq] at ho
      subst ho
      refine ⟨rfl, ?_⟩
      have h5 : a.tmps[5]?.getD undef = .pointer (some ⟨gb, 0, none⟩) := hF.base 5 (by simp) rfl
      exact owp_value (.agg #[.int .i64 gi, .int .u64 (gk : Int)]) (w' := W) (by clear hdep; go_simp) ⟨by simp [hl], hsz, by rw [iffW_ne (by decide), iffW_ne (by decide)]; exact hT, hK, hF.put 4 70 _ (by rw [hsz]; decide) (by simp) (by simp) (by simp)⟩
    | 5, ho, hn =>
      simp only [List.getElem?_toArray, List.getElem?_cons_zero, List.getElem?_cons_succ, Option.some.injEq] at ho
      subst ho
      refine ⟨rfl, ?_⟩
      have h69 := hF.slot (i := 3) (s := 69) (v := .pointer (some ⟨p, 0, none⟩)) (by simp) (hdep ⟨3, .data⟩ (by simp) rfl)
      have h70 := hF.slot (i := 4) (s := 70) (v := .agg #[.int .i64 gi, .int .u64 (gk : Int)]) (by simp) (hdep ⟨4, .data⟩ (by simp) rfl)
      rw [getD_no hn] at hT
      have hTs : PL w (fun k => (X k ∨ k = ob) ∨ k = gb) W b p q E hc hs tk s (iffW (l.getD 11 false) (s.cancel gi gk) s) := hT
      obtain ⟨Fx, hpx, _, hturn⟩ := hTs.left
      refine owp_call (fn := 18) (args := #[.pointer (some ⟨p, 0, none⟩), .agg #[.int .i64 gi, .int .u64 (gk : Int)]]) (by clear hdep; go_simp) ?_
      refine (pw_cancel hpx HF.out gi gk).mono ?_
      rintro e w' ⟨rfl, F', hp', he'⟩
      have hh := hturn _ _ _ hp' he'
      exact ⟨_, rfl, by simp [hl], hsz, by rw [iffW_at hn, iffW_ne (show 11 ≠ 5 by decide)]; exact hh.1, fun j hj => (hh.2 j hj).trans (hK j hj), hF.put 5 71 _ (by rw [hsz]; decide) (by simp) (by simp) (by simp)⟩
    | 6, ho, hn =>
      simp only [List.getElem?_toArray, List.getElem?_cons_zero, List.getElem?_cons_succ, Option.some.injEq] at ho
      subst ho
      refine ⟨rfl, ?_⟩
      have h0 : a.tmps[0]?.getD undef = .pointer (some ⟨b, 0, none⟩) := hF.base 0 (by simp) rfl
      exact owp_value (.pointer (some ⟨b, 0, none⟩)) (w' := W) (by clear hdep; go_simp) ⟨by simp [hl], hsz, by rw [iffW_ne (by decide), iffW_ne (by decide)]; exact hT, hK, hF.put 6 72 _ (by rw [hsz]; decide) (by simp) (by simp) (by simp)⟩
    | 7, ho, hn =>
      simp only [List.getElem?_toArray, List.getElem?_cons_zero, List.getElem?_cons_succ, Option.some.injEq] at ho
      subst ho
      refine ⟨rfl, ?_⟩
      have h72 := hF.slot (i := 6) (s := 72) (v := .pointer (some ⟨b, 0, none⟩)) (by simp) (hdep ⟨6, .data⟩ (by simp) rfl)
      exact owp_value (.pointer (some ⟨b, 0, none⟩)) (w' := W) (by clear hdep; go_simp) ⟨by simp [hl], hsz, by rw [iffW_ne (by decide), iffW_ne (by decide)]; exact hT, hK, hF.put 7 73 _ (by rw [hsz]; decide) (by simp) (by simp) (by simp)⟩
    | 8, ho, hn =>
      simp only [List.getElem?_toArray, List.getElem?_cons_zero, List.getElem?_cons_succ, Option.some.injEq] at ho
      subst ho
      refine ⟨rfl, ?_⟩
      have h73 := hF.slot (i := 7) (s := 73) (v := .pointer (some ⟨b, 0, none⟩)) (by simp) (hdep ⟨7, .data⟩ (by simp) rfl)
      exact owp_value (.pointer (some ⟨b, 1, none⟩)) (w' := W) (by clear hdep; go_simp) ⟨by simp [hl], hsz, by rw [iffW_ne (by decide), iffW_ne (by decide)]; exact hT, hK, hF.put 8 74 _ (by rw [hsz]; decide) (by simp) (by simp) (by simp)⟩
    | 9, ho, hn =>
      simp only [List.getElem?_toArray, List.getElem?_cons_zero, List.getElem?_cons_succ, Option.some.injEq] at ho
      subst ho
      refine ⟨rfl, ?_⟩
      have h74 := hF.slot (i := 8) (s := 74) (v := .pointer (some ⟨b, 1, none⟩)) (by simp) (hdep ⟨8, .data⟩ (by simp) rfl)
      exact owp_value (.pointer (some ⟨q, 0, none⟩)) (w' := W) (by clear hdep; go_simp) ⟨by simp [hl], hsz, by rw [iffW_ne (by decide), iffW_ne (by decide)]; exact hT, hK, hF.put 9 75 _ (by rw [hsz]; decide) (by simp) (by simp) (by simp)⟩
    | 10, ho, hn =>
      simp only [List.getElem?_toArray, List.getElem?_cons_zero, List.getElem?_cons_succ, Option.some.injEq] at ho
      subst ho
      refine ⟨rfl, ?_⟩
      have h5 : a.tmps[5]?.getD undef = .pointer (some ⟨gb, 0, none⟩) := hF.base 5 (by simp) rfl
      exact owp_value (.agg #[.int .i64 gi, .int .u64 (gk : Int)]) (w' := W) (by clear hdep; go_simp) ⟨by simp [hl], hsz, by rw [iffW_ne (by decide), iffW_ne (by decide)]; exact hT, hK, hF.put 10 76 _ (by rw [hsz]; decide) (by simp) (by simp) (by simp)⟩
    | 11, ho, hn =>
      simp only [List.getElem?_toArray, List.getElem?_cons_zero, List.getElem?_cons_succ, Option.some.injEq] at ho
      subst ho
      refine ⟨rfl, ?_⟩
      have h75 := hF.slot (i := 9) (s := 75) (v := .pointer (some ⟨q, 0, none⟩)) (by simp) (hdep ⟨9, .data⟩ (by simp) rfl)
      have h76 := hF.slot (i := 10) (s := 76) (v := .agg #[.int .i64 gi, .int .u64 (gk : Int)]) (by simp) (hdep ⟨10, .data⟩ (by simp) rfl)
      rw [getD_no hn] at hT
      have hTs : PL w (fun k => (X k ∨ k = ob) ∨ k = gb) W b p q E hc hs tk (iffW (l.getD 5 false) (s.cancel gi gk) s) s := hT
      obtain ⟨Fx, hpx, _, hturn⟩ := hTs.right
      refine owp_call (fn := 27) (args := #[.pointer (some ⟨q, 0, none⟩), .agg #[.int .i64 gi, .int .u64 (gk : Int)]]) (by clear hdep; go_simp) ?_
      refine (dw_cancel hpx HF.out gi gk).mono ?_
      rintro e w' ⟨rfl, F', hp', he'⟩
      have hh := hturn _ _ _ hp' he'
      exact ⟨_, rfl, by simp [hl], hsz, by rw [iffW_at hn, iffW_ne (show 5 ≠ 11 by decide)]; exact hh.1, fun j hj => (hh.2 j hj).trans (hK j hj), hF.put 11 77 _ (by rw [hsz]; decide) (by simp) (by simp) (by simp)⟩
    | 12, ho, hn =>
      simp only [List.getElem?_toArray, List.getElem?_cons_zero, List.getElem?_cons_succ, Option.some.injEq] at ho
      subst ho
      refine ⟨rfl, ?_⟩
      have h71 := hF.slot (i := 5) (s := 71) (v := .int .i64 (s.cancelE gi gk)) (by simp) (hdep ⟨5, .data⟩ (by simp) rfl)
      have h77 := hF.slot (i := 11) (s := 77) (v := .int .i64 (s.cancelE gi gk)) (by simp) (hdep ⟨11, .data⟩ (by simp) rfl)
      exact owp_value (.bool true) (w' := W) (by clear hdep; go_simp) ⟨by simp [hl], hsz, by rw [iffW_ne (by decide), iffW_ne (by decide)]; exact hT, hK, hF.put 12 78 _ (by rw [hsz]; decide) (by simp) (by simp) (by simp)⟩
    | 13, ho, hn =>
      simp only [List.getElem?_toArray, List.getElem?_cons_zero, List.getElem?_cons_succ, Option.some.injEq] at ho
      subst ho
      refine ⟨rfl, ?_⟩
      have h78 := hF.slot (i := 12) (s := 78) (v := .bool true) (by simp) (hdep ⟨12, .data⟩ (by simp) rfl)
      exact owp_value (.bool true) (w' := W) (by clear hdep; go_simp) ⟨by simp [hl], hsz, by rw [iffW_ne (by decide), iffW_ne (by decide)]; exact hT, hK, hF.put 13 4 _ (by rw [hsz]; decide) (by simp) (by simp) (by simp)⟩
    | i5 + 14, ho, hn => simp at ho
  · intro l a W1 hI hall
    obtain ⟨hl, hsz, hT, hK, hF⟩ := hI
    have hall : ∀ i, i < 14 → l.getD i false = true := hall
    have ha := hF.all (by simp only [List.mem_cons, List.not_mem_nil, or_false]; rintro x (rfl | rfl | rfl | rfl | rfl | rfl | rfl | rfl | rfl | rfl | rfl | rfl | rfl | rfl) <;> exact hall _ (by dsimp only; decide)) (by simp) (by rw [hsz]; simp)
    subst ha
    rw [hall 5 (by decide), hall 11 (by decide)] at hT
    have HT2 : Hid (PL w (fun k => (X k ∨ k = ob) ∨ k = gb) W1 b p q E hc hs tk (s.cancel gi gk) (s.cancel gi gk)) := Lib.hid hT
    have HX2 : Hid (∀ j, X j → W1.heap[j]? = W.heap[j]?) := Lib.hid fun j hj => (hK j (.inl (.inl hj))).trans (HX.out j hj)
    clear hF hall hl hsz hT hK HP HO HH HX
    refine hKc _ _ ?_
    simp only [setAll, List.setIfInBounds_toArray, List.set_cons_succ, List.set_cons_zero]
    go_wp2_with fail
    go_ret
    exact ⟨rfl, p, q, E, hc, hs, tk, (s.cancel gi gk), HT2.out.less fun j hj => .inl (.inl hj), (Wh.fit_cancel HF.out gi gk).more (by omega) (by omega), by omega, by omega, HX2.out⟩
set_option maxHeartbeats 2000000 in
theorem call_5 (h : PL w X W b p q E hc hs tk s s) (hf : s.Fit m) (hm : m < 4611686018427387904) (hl : hs.length ≤ 65535) (hh : Int) (h9 : hh ≤ 9223372036854775807) (at_ what : Nat) (ha : at_ < 18446744073709551616) : Calls Try.prog 10 #[.pointer (some ⟨b, 0, none⟩), .agg #[.int .i64 5, .int .i64 hh, .int .u64 (at_ : Int), .int .u64 (what : Int)]] W (CallEnd w W X b hs tk m) := by
  obtain ⟨gi, gk, hform⟩ := hndOf_form hs hh what
  have HHF := Lib.hid hform
  have HF := Lib.hid hf
  have HP1 := Lib.hid (h.box (.cells #[.int .i64 5, .int .i64 hh, .int .u64 (at_ : Int), .int .u64 (what : Int)] 41))
  have HO1 : Hid ((W.alloc (.cells #[.int .i64 5, .int .i64 hh, .int .u64 (at_ : Int), .int .u64 (what : Int)] 41)).heap[W.heap.size]? = some (.cells #[.int .i64 5, .int .i64 hh, .int .u64 (at_ : Int), .int .u64 (what : Int)] 41 (0, 0))) := Lib.hid (heap_alloc_new W _)
  have HX1 : Hid (∀ j, X j → (W.alloc (.cells #[.int .i64 5, .int .i64 hh, .int .u64 (at_ : Int), .int .u64 (what : Int)] 41)).heap[j]? = W.heap[j]?) := Lib.hid fun j hj => (below_alloc W (.cells #[.int .i64 5, .int .i64 hh, .int .u64 (at_ : Int), .int .u64 (what : Int)] 41)).block j (h.xo j hj)
  obtain ⟨ob, hob⟩ : ∃ ob, ob = W.heap.size := ⟨_, rfl⟩
  rw [← hob] at HO1 HP1
  clear h hf hform
  go_enter Try.func10, Try.ntmps10
  go_upto_region 1 with fail
  change Code.wp _ _ _ _ (W.alloc (.cells #[.int .i64 5, .int .i64 hh, .int .u64 (at_ : Int), .int .u64 (what : Int)] 41))
  rw [← hob]
  clear hob
  generalize W.alloc (.cells #[.int .i64 5, .int .i64 hh, .int .u64 (at_ : Int), .int .u64 (what : Int)] 41) = u1 at *
  have HHD := Lib.hid (handle_all HP1.out hl (5) hh h9 at_ what)
  rw [HHF.out] at HHD
  go_upto_region 2 with (first
    | (refine wpList_load_row rfl 41 (.tmp 3) rfl ob rfl 41 #[.int .i64 5, .int .i64 hh, .int .u64 (at_ : Int), .int .u64 (what : Int)] (0, 0) _ HO1.out Try.underlying41 rfl (by kernel_rfl) ?_)
    | (go_at_call 24
       refine HHD.out.mono ?_
       rintro e u2 ⟨rfl, hb⟩
       have HP2 := Lib.hid (HP1.out.step hb)
       have HO2 := Lib.hid (box_step HO1.out hb)
       have HX2 : Hid (∀ j, X j → u2.heap[j]? = W.heap[j]?) := Lib.hid fun j hj => (hb.block j (HP1.out.xo j (.inl hj))).trans (HX1.out j hj)
       clear hb HP1 HO1 HX1 HHD))
  have HP := Lib.hid (HP2.out.box (.cells #[.int .i64 gi, .int .u64 (gk : Int)] 46))
  have HO := Lib.hid (box_step HO2.out (below_alloc u2 (.cells #[.int .i64 gi, .int .u64 (gk : Int)] 46)))
  have HH : Hid ((u2.alloc (.cells #[.int .i64 gi, .int .u64 (gk : Int)] 46)).heap[u2.heap.size]? = some (.cells #[.int .i64 gi, .int .u64 (gk : Int)] 46 (0, 0))) := Lib.hid (heap_alloc_new u2 _)
  have HX : Hid (∀ j, X j → (u2.alloc (.cells #[.int .i64 gi, .int .u64 (gk : Int)] 46)).heap[j]? = W.heap[j]?) := Lib.hid fun j hj => ((below_alloc u2 (.cells #[.int .i64 gi, .int .u64 (gk : Int)] 46)).block j (HP2.out.xo j (.inl hj))).trans (HX2.out j hj)
  clear HP2 HO2 HX2 HHF
  change Code.wp _ _ _ _ (u2.alloc (.cells #[.int .i64 gi, .int .u64 (gk : Int)] 46))
  generalize u2.heap.size = gb at *
  generalize u2.alloc (.cells #[.int .i64 gi, .int .u64 (gk : Int)] 46) = u3 at *
  have y0 : u3.cell? ⟨ob, 0, none⟩ = some (.int .i64 (5)) := blk_cell HO.out 0
  have y2 : u3.cell? ⟨ob, 2, none⟩ = some (.int .u64 (at_ : Int)) := blk_cell HO.out 2
  have y3 : u3.cell? ⟨ob, 3, none⟩ = some (.int .u64 (what : Int)) := blk_cell HO.out 3
  go_upto_region 12 with fail
  clear y0 y2 y3
  rename_i Kc hKc
  refine wp_region_invG (fun a0 l a W => l.size = 16 ∧ a0.tmps.size = 155 ∧ PL w (fun k => (X k ∨ k = ob) ∨ k = gb) W b p q E hc hs tk (iffW (l.getD 6 false) (s.skip at_) s) (iffW (l.getD 13 false) (s.skip at_) s) ∧ (∀ j, (fun k => (X k ∨ k = ob) ∨ k = gb) j → W.heap[j]? = u3.heap[j]?) ∧ FrU a0 ([(0, 88, .pointer (some ⟨b, 0, none⟩)), (1, 89, .pointer (some ⟨b, 0, none⟩)), (2, 90, .pointer (some ⟨b, 0, none⟩)), (3, 91, .pointer (some ⟨p, 0, none⟩)), (4, 92, .pointer (some ⟨ob, 2, none⟩)), (5, 93, .int .u64 (at_ : Int)), (6, 94, .int .i64 (s.skipE at_)), (7, 95, .pointer (some ⟨b, 0, none⟩)), (8, 96, .pointer (some ⟨b, 0, none⟩)), (9, 97, .pointer (some ⟨b, 1, none⟩)), (10, 98, .pointer (some ⟨q, 0, none⟩)), (11, 99, .pointer (some ⟨ob, 2, none⟩)), (12, 100, .int .u64 (at_ : Int)), (13, 101, .int .i64 (s.skipE at_)), (14, 102, .bool true), (15, 4, .bool true)] : List (Nat × Nat × Value)) l a) ?_ ?_ ?_ ?_ ?_ ?_
  · kernel_rfl
  · exact fun _ _ _ h => h.1
  · kernel_rfl
  · exact ⟨by simp, rfl, by rw [getD_none, getD_none]; exact HP.out.step (Below.refl _ _).drew, fun _ _ => rfl, FrU.start _ _ _⟩
  · intro l a W i5 o hI ho hn hdep
    obtain ⟨hl, hsz, hT, hK, hF⟩ := hI
    have x0 : W.cell? ⟨b, 0, none⟩ = some (.pointer (some ⟨p, 0, none⟩)) := blk_cell hT.blk 0
    have x1 : W.cell? ⟨b, 1, none⟩ = some (.pointer (some ⟨q, 0, none⟩)) := blk_cell hT.blk 1
    have y2 : W.cell? ⟨ob, 2, none⟩ = some (.int .u64 (at_ : Int)) := blk_cell ((hK ob (.inl (.inr rfl))).trans HO.out) 2
    have g0 : W.cell? ⟨gb, 0, none⟩ = some (.int .i64 gi) := blk_cell ((hK gb (.inr rfl)).trans HH.out) 0
    have g1 : W.cell? ⟨gb, 1, none⟩ = some (.int .u64 (gk : Int)) := blk_cell ((hK gb (.inr rfl)).trans HH.out) 1
    match i5, ho, hn with
    | 0, ho, hn =>
      simp only [List.getElem?_toArray, List.getElem?_cons_zero, List.getElem?_cons_succ, Option.some.injEq] at ho
      subst ho
      refine ⟨rfl, ?_⟩
      have h0 : a.tmps[0]?.getD undef = .pointer (some ⟨b, 0, none⟩) := hF.base 0 (by simp) rfl
      exact owp_value (.pointer (some ⟨b, 0, none⟩)) (w' := W) (by clear hdep; go_simp) ⟨by simp [hl], hsz, by rw [iffW_ne (by decide), iffW_ne (by decide)]; exact hT, hK, hF.put 0 88 _ (by rw [hsz]; decide) (by simp) (by simp) (by simp)⟩
    | 1, ho, hn =>
      simp only [List.getElem?_toArray, List.getElem?_cons_zero, List.getElem?_cons_succ, Option.some.injEq] at ho
      subst ho
      refine ⟨rfl, ?_⟩
      have h88 := hF.slot (i := 0) (s := 88) (v := .pointer (some ⟨b, 0, none⟩)) (by simp) (hdep ⟨0, .data⟩ (by simp) rfl)
      exact owp_value (.pointer (some ⟨b, 0, none⟩)) (w' := W) (by clear hdep; go_simp) ⟨by simp [hl], hsz, by rw [iffW_ne (by decide), iffW_ne (by decide)]; exact hT, hK, hF.put 1 89 _ (by rw [hsz]; decide) (by simp) (by simp) (by simp)⟩
    | 2, ho, hn =>
      simp only [List.getElem?_toArray, List.getElem?_cons_zero, List.getElem?_cons_succ, Option.some.injEq] at ho
      subst ho
      refine ⟨rfl, ?_⟩
      have h89 := hF.slot (i := 1) (s := 89) (v := .pointer (some ⟨b, 0, none⟩)) (by simp) (hdep ⟨1, .data⟩ (by simp) rfl)
      exact owp_value (.pointer (some ⟨b, 0, none⟩)) (w' := W) (by clear hdep; go_simp) ⟨by simp [hl], hsz, by rw [iffW_ne (by decide), iffW_ne (by decide)]; exact hT, hK, hF.put 2 90 _ (by rw [hsz]; decide) (by simp) (by simp) (by simp)⟩
    | 3, ho, hn =>
      simp only [List.getElem?_toArray, List.getElem?_cons_zero, List.getElem?_cons_succ, Option.some.injEq] at ho
      subst ho
      refine ⟨rfl, ?_⟩
      have h90 := hF.slot (i := 2) (s := 90) (v := .pointer (some ⟨b, 0, none⟩)) (by simp) (hdep ⟨2, .data⟩ (by simp) rfl)
      exact owp_value (.pointer (some ⟨p, 0, none⟩)) (w' := W) (by clear hdep; go_simp) ⟨by simp [hl], hsz, by rw [iffW_ne (by decide), iffW_ne (by decide)]; exact hT, hK, hF.put 3 91 _ (by rw [hsz]; decide) (by simp) (by simp) (by simp)⟩
    | 4, ho, hn =>
      simp only [List.getElem?_toArray, List.getElem?_cons_zero, List.getElem?_cons_succ, Option.some.injEq] at ho
      subst ho
      refine ⟨rfl, ?_⟩
      have h3 : a.tmps[3]?.getD undef = .pointer (some ⟨ob, 0, none⟩) := hF.base 3 (by simp) rfl
      exact owp_value (.pointer (some ⟨ob, 2, none⟩)) (w' := W) (by clear hdep; go_simp) ⟨by simp [hl], hsz, by rw [iffW_ne (by decide), iffW_ne (by decide)]; exact hT, hK, hF.put 4 92 _ (by rw [hsz]; decide) (by simp) (by simp) (by simp)⟩
    | 5, ho, hn =>
      simp only [List.getElem?_toArray, List.getElem?_cons_zero, List.getElem?_cons_succ, Option.some.injEq] at ho
      subst ho
      refine ⟨rfl, ?_⟩
      have h92 := hF.slot (i := 4) (s := 92) (v := .pointer (some ⟨ob, 2, none⟩)) (by simp) (hdep ⟨4, .data⟩ (by simp) rfl)
      exact owp_value (.int .u64 (at_ : Int)) (w' := W) (by clear hdep; go_simp) ⟨by simp [hl], hsz, by rw [iffW_ne (by decide), iffW_ne (by decide)]; exact hT, hK, hF.put 5 93 _ (by rw [hsz]; decide) (by simp) (by simp) (by simp)⟩
    | 6, ho, hn =>
      simp only [List.getElem?_toArray, List.getElem?_cons_zero, List.getElem?_cons_succ, Option.some.injEq] at ho
      subst ho
      refine ⟨rfl, ?_⟩
      have h91 := hF.slot (i := 3) (s := 91) (v := .pointer (some ⟨p, 0, none⟩)) (by simp) (hdep ⟨3, .data⟩ (by simp) rfl)
      have h93 := hF.slot (i := 5) (s := 93) (v := .int .u64 (at_ : Int)) (by simp) (hdep ⟨5, .data⟩ (by simp) rfl)
      rw [getD_no hn] at hT
      have hTs : PL w (fun k => (X k ∨ k = ob) ∨ k = gb) W b p q E hc hs tk s (iffW (l.getD 13 false) (s.skip at_) s) := hT
      obtain ⟨Fx, hpx, _, hturn⟩ := hTs.left
      refine owp_call (fn := 8) (args := #[.pointer (some ⟨p, 0, none⟩), .int .u64 (at_ : Int)]) (by clear hdep; go_simp) ?_
      refine (pw_skip hpx HF.out at_ ha).mono ?_
      rintro e w' ⟨rfl, F', hp', he'⟩
      have hh := hturn _ _ _ hp' he'
      exact ⟨_, rfl, by simp [hl], hsz, by rw [iffW_at hn, iffW_ne (show 13 ≠ 6 by decide)]; exact hh.1, fun j hj => (hh.2 j hj).trans (hK j hj), hF.put 6 94 _ (by rw [hsz]; decide) (by simp) (by simp) (by simp)⟩
    | 7, ho, hn =>
      simp only [List.getElem?_toArray, List.getElem?_cons_zero, List.getElem?_cons_succ, Option.some.injEq] at ho
      subst ho
      refine ⟨rfl, ?_⟩
      have h0 : a.tmps[0]?.getD undef = .pointer (some ⟨b, 0, none⟩) := hF.base 0 (by simp) rfl
      exact owp_value (.pointer (some ⟨b, 0, none⟩)) (w' := W) (by clear hdep; go_simp) ⟨by simp [hl], hsz, by rw [iffW_ne (by decide), iffW_ne (by decide)]; exact hT, hK, hF.put 7 95 _ (by rw [hsz]; decide) (by simp) (by simp) (by simp)⟩
    | 8, ho, hn =>
      simp only [List.getElem?_toArray, List.getElem?_cons_zero, List.getElem?_cons_succ, Option.some.injEq] at ho
      subst ho
      refine ⟨rfl, ?_⟩
      have h95 := hF.slot (i := 7) (s := 95) (v := .pointer (some ⟨b, 0, none⟩)) (by simp) (hdep ⟨7, .data⟩ (by simp) rfl)
      exact owp_value (.pointer (some ⟨b, 0, none⟩)) (w' := W) (by clear hdep; go_simp) ⟨by simp [hl], hsz, by rw [iffW_ne (by decide), iffW_ne (by decide)]; exact hT, hK, hF.put 8 96 _ (by rw [hsz]; decide) (by simp) (by simp) (by simp)⟩
    | 9, ho, hn =>
      simp only [List.getElem?_toArray, List.getElem?_cons_zero, List.getElem?_cons_succ, Option.some.injEq] at ho
      subst ho
      refine ⟨rfl, ?_⟩
      have h96 := hF.slot (i := 8) (s := 96) (v := .pointer (some ⟨b, 0, none⟩)) (by simp) (hdep ⟨8, .data⟩ (by simp) rfl)
      exact owp_value (.pointer (some ⟨b, 1, none⟩)) (w' := W) (by clear hdep; go_simp) ⟨by simp [hl], hsz, by rw [iffW_ne (by decide), iffW_ne (by decide)]; exact hT, hK, hF.put 9 97 _ (by rw [hsz]; decide) (by simp) (by simp) (by simp)⟩
    | 10, ho, hn =>
      simp only [List.getElem?_toArray, List.getElem?_cons_zero, List.getElem?_cons_succ, Option.some.injEq] at ho
      subst ho
      refine ⟨rfl, ?_⟩
      have h97 := hF.slot (i := 9) (s := 97) (v := .pointer (some ⟨b, 1, none⟩)) (by simp) (hdep ⟨9, .data⟩ (by simp) rfl)
      exact owp_value (.pointer (some ⟨q, 0, none⟩)) (w' := W) (by clear hdep; go_simp) ⟨by simp [hl], hsz, by rw [iffW_ne (by decide), iffW_ne (by decide)]; exact hT, hK, hF.put 10 98 _ (by rw [hsz]; decide) (by simp) (by simp) (by simp)⟩
    | 11, ho, hn =>
      simp only [List.getElem?_toArray, List.getElem?_cons_zero, List.getElem?_cons_succ, Option.some.injEq] at ho
      subst ho
      refine ⟨rfl, ?_⟩
      have h3 : a.tmps[3]?.getD undef = .pointer (some ⟨ob, 0, none⟩) := hF.base 3 (by simp) rfl
      exact owp_value (.pointer (some ⟨ob, 2, none⟩)) (w' := W) (by clear hdep; go_simp) ⟨by simp [hl], hsz, by rw [iffW_ne (by decide), iffW_ne (by decide)]; exact hT, hK, hF.put 11 99 _ (by rw [hsz]; decide) (by simp) (by simp) (by simp)⟩
    | 12, ho, hn =>
      simp only [List.getElem?_toArray, List.getElem?_cons_zero, List.getElem?_cons_succ, Option.some.injEq] at ho
      subst ho
      refine ⟨rfl, ?_⟩
      have h99 := hF.slot (i := 11) (s := 99) (v := .pointer (some ⟨ob, 2, none⟩)) (by simp) (hdep ⟨11, .data⟩ (by simp) rfl)
      exact owp_value (.int .u64 (at_ : Int)) (w' := W) (by clear hdep; go_simp) ⟨by simp [hl], hsz, by rw [iffW_ne (by decide), iffW_ne (by decide)]; exact hT, hK, hF.put 12 100 _ (by rw [hsz]; decide) (by simp) (by simp) (by simp)⟩
    | 13, ho, hn =>
      simp only [List.getElem?_toArray, List.getElem?_cons_zero, List.getElem?_cons_succ, Option.some.injEq] at ho
      subst ho
      refine ⟨rfl, ?_⟩
      have h98 := hF.slot (i := 10) (s := 98) (v := .pointer (some ⟨q, 0, none⟩)) (by simp) (hdep ⟨10, .data⟩ (by simp) rfl)
      have h100 := hF.slot (i := 12) (s := 100) (v := .int .u64 (at_ : Int)) (by simp) (hdep ⟨12, .data⟩ (by simp) rfl)
      rw [getD_no hn] at hT
      have hTs : PL w (fun k => (X k ∨ k = ob) ∨ k = gb) W b p q E hc hs tk (iffW (l.getD 6 false) (s.skip at_) s) s := hT
      obtain ⟨Fx, hpx, _, hturn⟩ := hTs.right
      refine owp_call (fn := 29) (args := #[.pointer (some ⟨q, 0, none⟩), .int .u64 (at_ : Int)]) (by clear hdep; go_simp) ?_
      refine (dw_skip hpx at_ ha).mono ?_
      rintro e w' ⟨rfl, F', hp', he'⟩
      have hh := hturn _ _ _ hp' he'
      exact ⟨_, rfl, by simp [hl], hsz, by rw [iffW_at hn, iffW_ne (show 6 ≠ 13 by decide)]; exact hh.1, fun j hj => (hh.2 j hj).trans (hK j hj), hF.put 13 101 _ (by rw [hsz]; decide) (by simp) (by simp) (by simp)⟩
    | 14, ho, hn =>
      simp only [List.getElem?_toArray, List.getElem?_cons_zero, List.getElem?_cons_succ, Option.some.injEq] at ho
      subst ho
      refine ⟨rfl, ?_⟩
      have h94 := hF.slot (i := 6) (s := 94) (v := .int .i64 (s.skipE at_)) (by simp) (hdep ⟨6, .data⟩ (by simp) rfl)
      have h101 := hF.slot (i := 13) (s := 101) (v := .int .i64 (s.skipE at_)) (by simp) (hdep ⟨13, .data⟩ (by simp) rfl)
      exact owp_value (.bool true) (w' := W) (by clear hdep; go_simp) ⟨by simp [hl], hsz, by rw [iffW_ne (by decide), iffW_ne (by decide)]; exact hT, hK, hF.put 14 102 _ (by rw [hsz]; decide) (by simp) (by simp) (by simp)⟩
    | 15, ho, hn =>
      simp only [List.getElem?_toArray, List.getElem?_cons_zero, List.getElem?_cons_succ, Option.some.injEq] at ho
      subst ho
      refine ⟨rfl, ?_⟩
      have h102 := hF.slot (i := 14) (s := 102) (v := .bool true) (by simp) (hdep ⟨14, .data⟩ (by simp) rfl)
      exact owp_value (.bool true) (w' := W) (by clear hdep; go_simp) ⟨by simp [hl], hsz, by rw [iffW_ne (by decide), iffW_ne (by decide)]; exact hT, hK, hF.put 15 4 _ (by rw [hsz]; decide) (by simp) (by simp) (by simp)⟩
    | i5 + 16, ho, hn => simp at ho
  · intro l a W1 hI hall
    obtain ⟨hl, hsz, hT, hK, hF⟩ := hI
    have hall : ∀ i, i < 16 → l.getD i false = true := hall
    have ha := hF.all (by simp only [List.mem_cons, List.not_mem_nil, or_false]; rintro x (rfl | rfl | rfl | rfl | rfl | rfl | rfl | rfl | rfl | rfl | rfl | rfl | rfl | rfl | rfl | rfl) <;> exact hall _ (by dsimp only; decide)) (by simp) (by rw [hsz]; simp)
    subst ha
    rw [hall 6 (by decide), hall 13 (by decide)] at hT
    have HT2 : Hid (PL w (fun k => (X k ∨ k = ob) ∨ k = gb) W1 b p q E hc hs tk (s.skip at_) (s.skip at_)) := Lib.hid hT
    have HX2 : Hid (∀ j, X j → W1.heap[j]? = W.heap[j]?) := Lib.hid fun j hj => (hK j (.inl (.inl hj))).trans (HX.out j hj)
    clear hF hall hl hsz hT hK HP HO HH HX
    refine hKc _ _ ?_
    simp only [setAll, List.setIfInBounds_toArray, List.set_cons_succ, List.set_cons_zero]
    go_wp2_with fail
    go_ret
    exact ⟨rfl, p, q, E, hc, hs, tk, (s.skip at_), HT2.out.less fun j hj => .inl (.inl hj), (Wh.fit_skip HF.out ha).more (by omega) (by omega), by omega, by omega, HX2.out⟩
end
end Go.Proofs.Ytkmakdhlaenaoaa
