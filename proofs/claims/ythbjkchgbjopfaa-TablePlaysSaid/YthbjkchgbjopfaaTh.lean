/- Stage 13: same. -/
import Derived.Test.YthbjkchgbjopfaaTf
import Derived.Test.YthbjkchgbjopfaaTy
import Derived.Test.YthbjkchgbjopfaaFm
import Derived.Test.YthbjkchgbjopfaaRnd
import Derived.Test.YthbjkchgbjopfaaInG
import Derived.WalkKit
import Derived.Laws.StructEq
import Derived.OwnWalkIn
import Derived.TacticsInMore
import Derived.LoopNIn
import Derived.LoopIn
namespace Go.Proofs.Ythbjkchgbjopfaa
set_option maxRecDepth 100000
open Go.RowKit Go.Shelf
attribute [local go_sem] Oper.semAt_some
section
variable {PT : World → Nat → Tb → (Nat → Prop) → Prop} {g : Nat}
set_option maxHeartbeats 4000000 in
theorem tsame_any (HP : TabP PT g) {w : World} {p q : Nat} {s : Tb} {F G : Nat → Prop} (hF : PT w p s F) (hG : RTA w q s G) (hs : s.Ok) : Calls Try.prog 18 #[.pointer (some ⟨p, 0, none⟩), .pointer (some ⟨q, 0, none⟩)] w (ret (.bool true) w) := by
  have eg := HP.eg
  have HPL := Lib.hid fun W (hb : Below w.heap.size w W) => HP.places (HP.foot.keep hF (Kept.of_below hb fun _ => False) fun _ _ q => q) hs
  have HPE := Lib.hid fun W (hb : Below w.heap.size w W) => HP.entries (HP.foot.keep hF (Kept.of_below hb fun _ => False) fun _ _ q => q) hs
  have HPM := Lib.hid fun W (hb : Below w.heap.size w W) => HP.marks (HP.foot.keep hF (Kept.of_below hb fun _ => False) fun _ _ q => q) hs
  have HPG := Lib.hid fun W (hb : Below w.heap.size w W) (i : Int) => HP.get (HP.foot.keep hF (Kept.of_below hb fun _ => False) fun _ _ q => q) hs i
  have HAL := Lib.hid fun W (hb : Below w.heap.size w W) => HP.all (HP.foot.keep hF (Kept.of_below hb fun _ => False) fun _ _ q => q) hs
  have HFO := Lib.hid (HP.foot.old hF)
  obtain ⟨AF, cF, AM, cM, AE, cE, hX⟩ := hG
  have HRE := Lib.hid fun W (hb : Below w.heap.size w W) => rentries_any (hX.step hb) hs
  have HRM := Lib.hid fun W (hb : Below w.heap.size w W) => rmarks_any (hX.step hb) hs
  have HRG := Lib.hid fun W (hb : Below w.heap.size w W) (i : Int) => rget_any (hX.step hb) hs i
  have HQL0 := Lib.hid (lt_heap hX.blk)
  have HXQ0 : Hid (w.cell? ⟨q, 2, none⟩ = some (.slice AE s.n cE)) := Lib.hid (blk_cell hX.blk 2)
  have htop := hs.top
  obtain ⟨NN, hNN⟩ : ∃ N, N = s.n := ⟨_, rfl⟩
  obtain ⟨NE, hNE⟩ : ∃ N, N = s.entries := ⟨_, rfl⟩
  obtain ⟨NM, hNM⟩ : ∃ N, N = s.marks := ⟨_, rfl⟩
  rw [← hNN] at HPL HXQ0 htop
  rw [← hNE] at HPE HRE
  rw [← hNM] at HPM HRM
  have HNE : Hid (NE = s.all.length) := Lib.hid (by rw [hNE]; unfold Tb.entries Tb.all; rw [Tb.allU_len])
  have HNN := Lib.hid hNN
  clear hNN hNE hNM hF hX HP
  have HM0 : Hid (Mem w ((w.alloc (.cells #[.pointer (some ⟨q, 0, none⟩)] 29)).alloc (.cells #[.bool false] 4)) [(w.heap.size, .cells #[.pointer (some ⟨q, 0, none⟩)] 29 (0, 0)), (w.heap.size + 1, .cells #[.bool false] 4 (0, 0))]) := Lib.hid (by
    have h := ((Mem.nil w).alloc (.cells #[.pointer (some ⟨q, 0, none⟩)] 29)).alloc (.cells #[.bool false] 4)
    simpa using h)
  refine (callsIn_wide (n := 13)).1 ?_
  refine callsIn_of_wp_marks Try.func18 rfl trivial ?_ rfl
  refine wpIn_wide.2 ?_
  simp only [Try.ntmps18, List.size_toArray, List.length_cons, List.length_nil, Nat.reduceAdd, Nat.reduceSub, Array.replicate_succ, Array.replicate_zero, List.push_toArray, List.append_toArray, List.nil_append, List.cons_append]
  go_upto_region 1 with fail
  change Code.wp _ _ _ _ ((w.alloc (.cells #[.pointer (some ⟨q, 0, none⟩)] 29)).alloc (.cells #[.bool false] 4))
  have HM1 := Lib.hid HM0.out
  have HB1 := Lib.hid HM0.out.below
  clear HM0
  generalize (w.alloc (.cells #[.pointer (some ⟨q, 0, none⟩)] 29)).alloc (.cells #[.bool false] 4) = u1 at *
  obtain ⟨b3, hb3⟩ : ∃ b, b = w.heap.size := ⟨_, rfl⟩
  obtain ⟨b4, hb4⟩ : ∃ b, b = w.heap.size + 1 := ⟨_, rfl⟩
  have HW3 : Hid (b3 = w.heap.size ∧ b4 = w.heap.size + 1) := Lib.hid ⟨hb3, hb4⟩
  rw [← hb4, ← hb3] at HM1
  rw [← hb4, ← hb3]
  clear hb3 hb4
  have HX3 := Lib.hid (HM1.out.get 0 rfl)
  have H3L := Lib.hid (lt_heap (HM1.out.get 0 rfl))
  have HQL : Hid (q < u1.heap.size) := Lib.hid (Nat.lt_of_lt_of_le HQL0.out HB1.out.size)
  have HXQ : Hid (u1.cell? ⟨q, 2, none⟩ = some (.slice AE NN cE)) := Lib.hid ((HB1.out.cell (p := ⟨q, 2, none⟩) HQL0.out).trans HXQ0.out)
  have hL : True := trivial
  rename_i Kc hKc
  refine wp_region_invG (fun a0 l a W => l.size = 27 ∧ a0.tmps.size = 94 ∧ Below u1.heap.size u1 W ∧ ∃ (lb : Array Value), (l.getD 24 false = true → True) ∧ FrU a0 (kv ([(0, 15), (1, 16), (2, 17), (3, 18), (4, 19), (5, 20), (6, 21), (7, 22), (8, 23), (9, 24), (10, 25), (11, 26), (12, 27), (13, 28), (14, 29), (15, 30), (16, 31), (17, 32), (18, 33), (19, 34), (20, 35), (21, 36), (22, 37), (23, 38), (24, 39), (25, 40), (26, 41)] : List (Nat × Nat)) (fun i => ([.pointer (some ⟨p, 0, none⟩), .int .i64 (NN : Int), .pointer (some ⟨q, 0, none⟩), .pointer (some ⟨q, 0, none⟩), .pointer (some ⟨q, 2, none⟩), .slice AE NN cE, .int .i64 (NN : Int), .bool false, .bool false, .pointer (some ⟨p, 0, none⟩), .int .i64 (NE : Int), .pointer (some ⟨q, 0, none⟩), .int .i64 (NE : Int), .bool false, .bool false, .bool false, .pointer (some ⟨p, 0, none⟩), .int .i64 (NM : Int), .pointer (some ⟨q, 0, none⟩), .int .i64 (NM : Int), .bool false, .bool false, .bool false, .pointer (some ⟨p, 0, none⟩), .func (.func g) #[] lb, .bool false, .bool false][i]?).getD undef)) l a) ?_ ?_ ?_ ?_ ?_ ?_
  · kernel_rfl
  · exact fun _ _ _ h => h.1
  · kernel_rfl
  · exact ⟨by simp, rfl, (Below.refl _ _).drew, #[], (fun h => by rw [getD_none] at h; cases h), FrU.start _ _ _⟩
  · intro l a W i5 o hI ho hn hdep
    obtain ⟨hl, hsz, hW, lb, hX39, hF⟩ := hI
    have hx3 : W.cell? ⟨b3, 0, none⟩ = some (.pointer (some ⟨q, 0, none⟩)) := (hW.cell (p := ⟨b3, 0, none⟩) H3L.out).trans (blk_cell HX3.out 0)
    have hxq : W.cell? ⟨q, 2, none⟩ = some (.slice AE NN cE) := (hW.cell (p := ⟨q, 2, none⟩) HQL.out).trans HXQ.out
    have h99 : ∀ lb (V : World), (binOp .eql 62 (.func (.func g) #[] lb) .nilFunc).run Try.prog V = .ok (.bool false) V := fun _ _ => by kernel_rfl
    match i5, ho, hn with
    | 0, ho, hn =>
      simp only [List.getElem?_toArray, List.getElem?_cons_zero, Option.some.injEq] at ho
      subst ho
      refine ⟨rfl, ?_⟩
      have h0 : a.tmps[0]?.getD undef = .pointer (some ⟨p, 0, none⟩) := hF.baseK 0 rfl rfl
      exact owp_value (.pointer (some ⟨p, 0, none⟩)) (w' := W) (by clear hdep; go_simp) ⟨by simp [hl], hsz, hW, lb, (fun h => (hX39 (by rw [getD_set (by decide)] at h; exact h))), hF.putK 0 15 _ (by rw [hsz]; decide) rfl rfl⟩
    | 1, ho, hn =>
      simp only [List.getElem?_toArray, List.getElem?_cons_zero, List.getElem?_cons_succ, Option.some.injEq] at ho
      subst ho
      refine ⟨rfl, ?_⟩
      have h15 := hF.slotK (i := 0) (s := 15) (v := .pointer (some ⟨p, 0, none⟩)) rfl (hdep ⟨0, .data⟩ (by simp) rfl) rfl
      refine owp_call (fn := 24) (args := #[.pointer (some ⟨p, 0, none⟩)]) (by clear hdep; go_simp) ?_
      refine (HPL.out W (HB1.out.trans (hW.mono HB1.out.size))).mono ?_
      rintro e w' ⟨rfl, hb⟩
      exact ⟨_, rfl, by simp [hl], hsz, hW.trans (hb.mono hW.size), lb, (fun h => True.intro), hF.putK 1 16 _ (by rw [hsz]; decide) rfl rfl⟩
    | 2, ho, hn =>
      simp only [List.getElem?_toArray, List.getElem?_cons_zero, List.getElem?_cons_succ, Option.some.injEq] at ho
      subst ho
      refine ⟨rfl, ?_⟩
      have h3 : a.tmps[3]?.getD undef = .pointer (some ⟨b3, 0, none⟩) := hF.baseK 3 rfl rfl
      exact owp_value (.pointer (some ⟨q, 0, none⟩)) (w' := W) (by clear hdep; go_simp) ⟨by simp [hl], hsz, hW, lb, (fun h => (hX39 (by rw [getD_set (by decide)] at h; exact h))), hF.putK 2 17 _ (by rw [hsz]; decide) rfl rfl⟩
    | 3, ho, hn =>
      simp only [List.getElem?_toArray, List.getElem?_cons_zero, List.getElem?_cons_succ, Option.some.injEq] at ho
      subst ho
      refine ⟨rfl, ?_⟩
      have h17 := hF.slotK (i := 2) (s := 17) (v := .pointer (some ⟨q, 0, none⟩)) rfl (hdep ⟨2, .data⟩ (by simp) rfl) rfl
      exact owp_value (.pointer (some ⟨q, 0, none⟩)) (w' := W) (by clear hdep; go_simp) ⟨by simp [hl], hsz, hW, lb, (fun h => (hX39 (by rw [getD_set (by decide)] at h; exact h))), hF.putK 3 18 _ (by rw [hsz]; decide) rfl rfl⟩
    | 4, ho, hn =>
      simp only [List.getElem?_toArray, List.getElem?_cons_zero, List.getElem?_cons_succ, Option.some.injEq] at ho
      subst ho
      refine ⟨rfl, ?_⟩
      have h18 := hF.slotK (i := 3) (s := 18) (v := .pointer (some ⟨q, 0, none⟩)) rfl (hdep ⟨3, .data⟩ (by simp) rfl) rfl
      exact owp_value (.pointer (some ⟨q, 2, none⟩)) (w' := W) (by clear hdep; go_simp) ⟨by simp [hl], hsz, hW, lb, (fun h => (hX39 (by rw [getD_set (by decide)] at h; exact h))), hF.putK 4 19 _ (by rw [hsz]; decide) rfl rfl⟩
    | 5, ho, hn =>
      simp only [List.getElem?_toArray, List.getElem?_cons_zero, List.getElem?_cons_succ, Option.some.injEq] at ho
      subst ho
      refine ⟨rfl, ?_⟩
      have h19 := hF.slotK (i := 4) (s := 19) (v := .pointer (some ⟨q, 2, none⟩)) rfl (hdep ⟨4, .data⟩ (by simp) rfl) rfl
      exact owp_value (.slice AE NN cE) (w' := W) (by clear hdep; go_simp) ⟨by simp [hl], hsz, hW, lb, (fun h => (hX39 (by rw [getD_set (by decide)] at h; exact h))), hF.putK 5 20 _ (by rw [hsz]; decide) rfl rfl⟩
    | 6, ho, hn =>
      simp only [List.getElem?_toArray, List.getElem?_cons_zero, List.getElem?_cons_succ, Option.some.injEq] at ho
      subst ho
      refine ⟨rfl, ?_⟩
      have h20 := hF.slotK (i := 5) (s := 20) (v := .slice AE NN cE) rfl (hdep ⟨5, .data⟩ (by simp) rfl) rfl
      exact owp_value (.int .i64 (NN : Int)) (w' := W) (by clear hdep; go_simp) ⟨by simp [hl], hsz, hW, lb, (fun h => (hX39 (by rw [getD_set (by decide)] at h; exact h))), hF.putK 6 21 _ (by rw [hsz]; decide) rfl rfl⟩
    | 7, ho, hn =>
      simp only [List.getElem?_toArray, List.getElem?_cons_zero, List.getElem?_cons_succ, Option.some.injEq] at ho
      subst ho
      refine ⟨rfl, ?_⟩
      have h16 := hF.slotK (i := 1) (s := 16) (v := .int .i64 (NN : Int)) rfl (hdep ⟨1, .data⟩ (by simp) rfl) rfl
      have h21 := hF.slotK (i := 6) (s := 21) (v := .int .i64 (NN : Int)) rfl (hdep ⟨6, .data⟩ (by simp) rfl) rfl
      exact owp_value (.bool false) (w' := W) (by clear hdep; go_simp) ⟨by simp [hl], hsz, hW, lb, (fun h => (hX39 (by rw [getD_set (by decide)] at h; exact h))), hF.putK 7 22 _ (by rw [hsz]; decide) rfl rfl⟩
    | 8, ho, hn =>
      simp only [List.getElem?_toArray, List.getElem?_cons_zero, List.getElem?_cons_succ, Option.some.injEq] at ho
      subst ho
      refine ⟨rfl, ?_⟩
      have h22 := hF.slotK (i := 7) (s := 22) (v := .bool false) rfl (hdep ⟨7, .data⟩ (by simp) rfl) rfl
      exact owp_value (.bool false) (w' := W) (by clear hdep; go_simp) ⟨by simp [hl], hsz, hW, lb, (fun h => (hX39 (by rw [getD_set (by decide)] at h; exact h))), hF.putK 8 23 _ (by rw [hsz]; decide) rfl rfl⟩
    | 9, ho, hn =>
      simp only [List.getElem?_toArray, List.getElem?_cons_zero, List.getElem?_cons_succ, Option.some.injEq] at ho
      subst ho
      refine ⟨wanted_of (j := 8) (s := 23) (b := false) rfl rfl rfl (hF.slotK (i := 8) (s := 23) (v := .bool false) rfl (hdep ⟨8, .guard⟩ (by simp) rfl) rfl), ?_⟩
      have h0 : a.tmps[0]?.getD undef = .pointer (some ⟨p, 0, none⟩) := hF.baseK 0 rfl rfl
      exact owp_value (.pointer (some ⟨p, 0, none⟩)) (w' := W) (by clear hdep; go_simp) ⟨by simp [hl], hsz, hW, lb, (fun h => (hX39 (by rw [getD_set (by decide)] at h; exact h))), hF.putK 9 24 _ (by rw [hsz]; decide) rfl rfl⟩
    | 10, ho, hn =>
      simp only [List.getElem?_toArray, List.getElem?_cons_zero, List.getElem?_cons_succ, Option.some.injEq] at ho
      subst ho
      refine ⟨wanted_of (j := 8) (s := 23) (b := false) rfl rfl rfl (hF.slotK (i := 8) (s := 23) (v := .bool false) rfl (hdep ⟨8, .guard⟩ (by simp) rfl) rfl), ?_⟩
      have h24 := hF.slotK (i := 9) (s := 24) (v := .pointer (some ⟨p, 0, none⟩)) rfl (hdep ⟨9, .data⟩ (by simp) rfl) rfl
      refine owp_call (fn := 22) (args := #[.pointer (some ⟨p, 0, none⟩)]) (by clear hdep; go_simp) ?_
      refine (HPE.out W (HB1.out.trans (hW.mono HB1.out.size))).mono ?_
      rintro e w' ⟨rfl, hb⟩
      exact ⟨_, rfl, by simp [hl], hsz, hW.trans (hb.mono hW.size), lb, (fun h => True.intro), hF.putK 10 25 _ (by rw [hsz]; decide) rfl rfl⟩
    | 11, ho, hn =>
      simp only [List.getElem?_toArray, List.getElem?_cons_zero, List.getElem?_cons_succ, Option.some.injEq] at ho
      subst ho
      refine ⟨wanted_of (j := 8) (s := 23) (b := false) rfl rfl rfl (hF.slotK (i := 8) (s := 23) (v := .bool false) rfl (hdep ⟨8, .guard⟩ (by simp) rfl) rfl), ?_⟩
      have h3 : a.tmps[3]?.getD undef = .pointer (some ⟨b3, 0, none⟩) := hF.baseK 3 rfl rfl
      exact owp_value (.pointer (some ⟨q, 0, none⟩)) (w' := W) (by clear hdep; go_simp) ⟨by simp [hl], hsz, hW, lb, (fun h => (hX39 (by rw [getD_set (by decide)] at h; exact h))), hF.putK 11 26 _ (by rw [hsz]; decide) rfl rfl⟩
    | 12, ho, hn =>
      simp only [List.getElem?_toArray, List.getElem?_cons_zero, List.getElem?_cons_succ, Option.some.injEq] at ho
      subst ho
      refine ⟨wanted_of (j := 8) (s := 23) (b := false) rfl rfl rfl (hF.slotK (i := 8) (s := 23) (v := .bool false) rfl (hdep ⟨8, .guard⟩ (by simp) rfl) rfl), ?_⟩
      have h26 := hF.slotK (i := 11) (s := 26) (v := .pointer (some ⟨q, 0, none⟩)) rfl (hdep ⟨11, .data⟩ (by simp) rfl) rfl
      refine owp_call (fn := 37) (args := #[.pointer (some ⟨q, 0, none⟩)]) (by clear hdep; go_simp) ?_
      refine (HRE.out W (HB1.out.trans (hW.mono HB1.out.size))).mono ?_
      rintro e w' ⟨rfl, hb⟩
      exact ⟨_, rfl, by simp [hl], hsz, hW.trans (hb.mono hW.size), lb, (fun h => True.intro), hF.putK 12 27 _ (by rw [hsz]; decide) rfl rfl⟩
    | 13, ho, hn =>
      simp only [List.getElem?_toArray, List.getElem?_cons_zero, List.getElem?_cons_succ, Option.some.injEq] at ho
      subst ho
      refine ⟨wanted_of (j := 8) (s := 23) (b := false) rfl rfl rfl (hF.slotK (i := 8) (s := 23) (v := .bool false) rfl (hdep ⟨8, .guard⟩ (by simp) rfl) rfl), ?_⟩
      have h25 := hF.slotK (i := 10) (s := 25) (v := .int .i64 (NE : Int)) rfl (hdep ⟨10, .data⟩ (by simp) rfl) rfl
      have h27 := hF.slotK (i := 12) (s := 27) (v := .int .i64 (NE : Int)) rfl (hdep ⟨12, .data⟩ (by simp) rfl) rfl
      exact owp_value (.bool false) (w' := W) (by clear hdep; go_simp) ⟨by simp [hl], hsz, hW, lb, (fun h => (hX39 (by rw [getD_set (by decide)] at h; exact h))), hF.putK 13 28 _ (by rw [hsz]; decide) rfl rfl⟩
    | 14, ho, hn =>
      simp only [List.getElem?_toArray, List.getElem?_cons_zero, List.getElem?_cons_succ, Option.some.injEq] at ho
      subst ho
      refine ⟨rfl, ?_⟩
      have h23 := hF.slotK (i := 8) (s := 23) (v := .bool false) rfl (hdep ⟨8, .data⟩ (by simp) rfl) rfl
      have h28 := hF.slotK (i := 13) (s := 28) (v := .bool false) rfl (hdep ⟨13, .data⟩ (by simp) rfl) rfl
      exact owp_value (.bool false) (w' := W) (by clear hdep; go_simp) ⟨by simp [hl], hsz, hW, lb, (fun h => (hX39 (by rw [getD_set (by decide)] at h; exact h))), hF.putK 14 29 _ (by rw [hsz]; decide) rfl rfl⟩
    | 15, ho, hn =>
      simp only [List.getElem?_toArray, List.getElem?_cons_zero, List.getElem?_cons_succ, Option.some.injEq] at ho
      subst ho
      refine ⟨rfl, ?_⟩
      have h29 := hF.slotK (i := 14) (s := 29) (v := .bool false) rfl (hdep ⟨14, .data⟩ (by simp) rfl) rfl
      exact owp_value (.bool false) (w' := W) (by clear hdep; go_simp) ⟨by simp [hl], hsz, hW, lb, (fun h => (hX39 (by rw [getD_set (by decide)] at h; exact h))), hF.putK 15 30 _ (by rw [hsz]; decide) rfl rfl⟩
    | 16, ho, hn =>
      simp only [List.getElem?_toArray, List.getElem?_cons_zero, List.getElem?_cons_succ, Option.some.injEq] at ho
      subst ho
      refine ⟨wanted_of (j := 15) (s := 30) (b := false) rfl rfl rfl (hF.slotK (i := 15) (s := 30) (v := .bool false) rfl (hdep ⟨15, .guard⟩ (by simp) rfl) rfl), ?_⟩
      have h0 : a.tmps[0]?.getD undef = .pointer (some ⟨p, 0, none⟩) := hF.baseK 0 rfl rfl
      exact owp_value (.pointer (some ⟨p, 0, none⟩)) (w' := W) (by clear hdep; go_simp) ⟨by simp [hl], hsz, hW, lb, (fun h => (hX39 (by rw [getD_set (by decide)] at h; exact h))), hF.putK 16 31 _ (by rw [hsz]; decide) rfl rfl⟩
    | 17, ho, hn =>
      simp only [List.getElem?_toArray, List.getElem?_cons_zero, List.getElem?_cons_succ, Option.some.injEq] at ho
      subst ho
      refine ⟨wanted_of (j := 15) (s := 30) (b := false) rfl rfl rfl (hF.slotK (i := 15) (s := 30) (v := .bool false) rfl (hdep ⟨15, .guard⟩ (by simp) rfl) rfl), ?_⟩
      have h31 := hF.slotK (i := 16) (s := 31) (v := .pointer (some ⟨p, 0, none⟩)) rfl (hdep ⟨16, .data⟩ (by simp) rfl) rfl
      refine owp_call (fn := 25) (args := #[.pointer (some ⟨p, 0, none⟩)]) (by clear hdep; go_simp) ?_
      refine (HPM.out W (HB1.out.trans (hW.mono HB1.out.size))).mono ?_
      rintro e w' ⟨rfl, hb⟩
      exact ⟨_, rfl, by simp [hl], hsz, hW.trans (hb.mono hW.size), lb, (fun h => True.intro), hF.putK 17 32 _ (by rw [hsz]; decide) rfl rfl⟩
    | 18, ho, hn =>
      simp only [List.getElem?_toArray, List.getElem?_cons_zero, List.getElem?_cons_succ, Option.some.injEq] at ho
      subst ho
      refine ⟨wanted_of (j := 15) (s := 30) (b := false) rfl rfl rfl (hF.slotK (i := 15) (s := 30) (v := .bool false) rfl (hdep ⟨15, .guard⟩ (by simp) rfl) rfl), ?_⟩
      have h3 : a.tmps[3]?.getD undef = .pointer (some ⟨b3, 0, none⟩) := hF.baseK 3 rfl rfl
      exact owp_value (.pointer (some ⟨q, 0, none⟩)) (w' := W) (by clear hdep; go_simp) ⟨by simp [hl], hsz, hW, lb, (fun h => (hX39 (by rw [getD_set (by decide)] at h; exact h))), hF.putK 18 33 _ (by rw [hsz]; decide) rfl rfl⟩
    | 19, ho, hn =>
      simp only [List.getElem?_toArray, List.getElem?_cons_zero, List.getElem?_cons_succ, Option.some.injEq] at ho
      subst ho
      refine ⟨wanted_of (j := 15) (s := 30) (b := false) rfl rfl rfl (hF.slotK (i := 15) (s := 30) (v := .bool false) rfl (hdep ⟨15, .guard⟩ (by simp) rfl) rfl), ?_⟩
      have h33 := hF.slotK (i := 18) (s := 33) (v := .pointer (some ⟨q, 0, none⟩)) rfl (hdep ⟨18, .data⟩ (by simp) rfl) rfl
      refine owp_call (fn := 38) (args := #[.pointer (some ⟨q, 0, none⟩)]) (by clear hdep; go_simp) ?_
      refine (HRM.out W (HB1.out.trans (hW.mono HB1.out.size))).mono ?_
      rintro e w' ⟨rfl, hb⟩
      exact ⟨_, rfl, by simp [hl], hsz, hW.trans (hb.mono hW.size), lb, (fun h => True.intro), hF.putK 19 34 _ (by rw [hsz]; decide) rfl rfl⟩
    | 20, ho, hn =>
      simp only [List.getElem?_toArray, List.getElem?_cons_zero, List.getElem?_cons_succ, Option.some.injEq] at ho
      subst ho
      refine ⟨wanted_of (j := 15) (s := 30) (b := false) rfl rfl rfl (hF.slotK (i := 15) (s := 30) (v := .bool false) rfl (hdep ⟨15, .guard⟩ (by simp) rfl) rfl), ?_⟩
      have h32 := hF.slotK (i := 17) (s := 32) (v := .int .i64 (NM : Int)) rfl (hdep ⟨17, .data⟩ (by simp) rfl) rfl
      have h34 := hF.slotK (i := 19) (s := 34) (v := .int .i64 (NM : Int)) rfl (hdep ⟨19, .data⟩ (by simp) rfl) rfl
      exact owp_value (.bool false) (w' := W) (by clear hdep; go_simp) ⟨by simp [hl], hsz, hW, lb, (fun h => (hX39 (by rw [getD_set (by decide)] at h; exact h))), hF.putK 20 35 _ (by rw [hsz]; decide) rfl rfl⟩
    | 21, ho, hn =>
      simp only [List.getElem?_toArray, List.getElem?_cons_zero, List.getElem?_cons_succ, Option.some.injEq] at ho
      subst ho
      refine ⟨rfl, ?_⟩
      have h30 := hF.slotK (i := 15) (s := 30) (v := .bool false) rfl (hdep ⟨15, .data⟩ (by simp) rfl) rfl
      have h35 := hF.slotK (i := 20) (s := 35) (v := .bool false) rfl (hdep ⟨20, .data⟩ (by simp) rfl) rfl
      exact owp_value (.bool false) (w' := W) (by clear hdep; go_simp) ⟨by simp [hl], hsz, hW, lb, (fun h => (hX39 (by rw [getD_set (by decide)] at h; exact h))), hF.putK 21 36 _ (by rw [hsz]; decide) rfl rfl⟩
    | 22, ho, hn =>
      simp only [List.getElem?_toArray, List.getElem?_cons_zero, List.getElem?_cons_succ, Option.some.injEq] at ho
      subst ho
      refine ⟨rfl, ?_⟩
      have h36 := hF.slotK (i := 21) (s := 36) (v := .bool false) rfl (hdep ⟨21, .data⟩ (by simp) rfl) rfl
      exact owp_value (.bool false) (w' := W) (by clear hdep; go_simp) ⟨by simp [hl], hsz, hW, lb, (fun h => (hX39 (by rw [getD_set (by decide)] at h; exact h))), hF.putK 22 37 _ (by rw [hsz]; decide) rfl rfl⟩
    | 23, ho, hn =>
      simp only [List.getElem?_toArray, List.getElem?_cons_zero, List.getElem?_cons_succ, Option.some.injEq] at ho
      subst ho
      refine ⟨wanted_of (j := 22) (s := 37) (b := false) rfl rfl rfl (hF.slotK (i := 22) (s := 37) (v := .bool false) rfl (hdep ⟨22, .guard⟩ (by simp) rfl) rfl), ?_⟩
      have h0 : a.tmps[0]?.getD undef = .pointer (some ⟨p, 0, none⟩) := hF.baseK 0 rfl rfl
      exact owp_value (.pointer (some ⟨p, 0, none⟩)) (w' := W) (by clear hdep; go_simp) ⟨by simp [hl], hsz, hW, lb, (fun h => (hX39 (by rw [getD_set (by decide)] at h; exact h))), hF.putK 23 38 _ (by rw [hsz]; decide) rfl rfl⟩
    | 24, ho, hn =>
      simp only [List.getElem?_toArray, List.getElem?_cons_zero, List.getElem?_cons_succ, Option.some.injEq] at ho
      subst ho
      refine ⟨wanted_of (j := 22) (s := 37) (b := false) rfl rfl rfl (hF.slotK (i := 22) (s := 37) (v := .bool false) rfl (hdep ⟨22, .guard⟩ (by simp) rfl) rfl), ?_⟩
      have h38 := hF.slotK (i := 23) (s := 38) (v := .pointer (some ⟨p, 0, none⟩)) rfl (hdep ⟨23, .data⟩ (by simp) rfl) rfl
      refine owp_call (fn := 26) (args := #[.pointer (some ⟨p, 0, none⟩)]) (by clear hdep; go_simp) ?_
      refine (HAL.out W (HB1.out.trans (hW.mono HB1.out.size))).mono ?_
      rintro e w' ⟨lb9, Fi, rfl, hb, _, _⟩
      have hnew := True.intro
      have hF2 := hF.swapQ (V' := (fun i => ([.pointer (some ⟨p, 0, none⟩), .int .i64 (NN : Int), .pointer (some ⟨q, 0, none⟩), .pointer (some ⟨q, 0, none⟩), .pointer (some ⟨q, 2, none⟩), .slice AE NN cE, .int .i64 (NN : Int), .bool false, .bool false, .pointer (some ⟨p, 0, none⟩), .int .i64 (NE : Int), .pointer (some ⟨q, 0, none⟩), .int .i64 (NE : Int), .bool false, .bool false, .bool false, .pointer (some ⟨p, 0, none⟩), .int .i64 (NM : Int), .pointer (some ⟨q, 0, none⟩), .int .i64 (NM : Int), .bool false, .bool false, .bool false, .pointer (some ⟨p, 0, none⟩), .func (.func g) #[] lb9, .bool false, .bool false][i]?).getD undef)) 24 hn (fun q hq => by
        match q with
        | 0 => rfl
        | 1 => rfl
        | 2 => rfl
        | 3 => rfl
        | 4 => rfl
        | 5 => rfl
        | 6 => rfl
        | 7 => rfl
        | 8 => rfl
        | 9 => rfl
        | 10 => rfl
        | 11 => rfl
        | 12 => rfl
        | 13 => rfl
        | 14 => rfl
        | 15 => rfl
        | 16 => rfl
        | 17 => rfl
        | 18 => rfl
        | 19 => rfl
        | 20 => rfl
        | 21 => rfl
        | 22 => rfl
        | 23 => rfl
        | 24 => exact absurd rfl hq
        | 25 => rfl
        | 26 => rfl
        | q + 27 => rfl)
      exact ⟨_, rfl, by simp [hl], hsz, hW.trans (hb.mono hW.size), lb9, (fun _ => hnew), hF2.putK 24 39 _ (by rw [hsz]; decide) rfl rfl⟩
    | 25, ho, hn =>
      simp only [List.getElem?_toArray, List.getElem?_cons_zero, List.getElem?_cons_succ, Option.some.injEq] at ho
      subst ho
      refine ⟨wanted_of (j := 22) (s := 37) (b := false) rfl rfl rfl (hF.slotK (i := 22) (s := 37) (v := .bool false) rfl (hdep ⟨22, .guard⟩ (by simp) rfl) rfl), ?_⟩
      have h39 := hF.slotK (i := 24) (s := 39) (v := .func (.func g) #[] lb) rfl (hdep ⟨24, .data⟩ (by simp) rfl) rfl
      exact owp_value (.bool false) (w' := W) (by clear hdep; go_simp) ⟨by simp [hl], hsz, hW, lb, (fun h => (hX39 (by rw [getD_set (by decide)] at h; exact h))), hF.putK 25 40 _ (by rw [hsz]; decide) rfl rfl⟩
    | 26, ho, hn =>
      simp only [List.getElem?_toArray, List.getElem?_cons_zero, List.getElem?_cons_succ, Option.some.injEq] at ho
      subst ho
      refine ⟨rfl, ?_⟩
      have h37 := hF.slotK (i := 22) (s := 37) (v := .bool false) rfl (hdep ⟨22, .data⟩ (by simp) rfl) rfl
      have h40 := hF.slotK (i := 25) (s := 40) (v := .bool false) rfl (hdep ⟨25, .data⟩ (by simp) rfl) rfl
      exact owp_value (.bool false) (w' := W) (by clear hdep; go_simp) ⟨by simp [hl], hsz, hW, lb, (fun h => (hX39 (by rw [getD_set (by decide)] at h; exact h))), hF.putK 26 41 _ (by rw [hsz]; decide) rfl rfl⟩
    | i5 + 27, ho, hn => simp at ho
  · intro l a W1 hI hall
    obtain ⟨_, _, hW1, lb, hX39, hF⟩ := hI
    have hall : ∀ i, i < 27 → l.getD i false = true := hall
    have ha := FrU.allQ (K := ([(0, 15), (1, 16), (2, 17), (3, 18), (4, 19), (5, 20), (6, 21), (7, 22), (8, 23), (9, 24), (10, 25), (11, 26), (12, 27), (13, 28), (14, 29), (15, 30), (16, 31), (17, 32), (18, 33), (19, 34), (20, 35), (21, 36), (22, 37), (23, 38), (24, 39), (25, 40), (26, 41)] : List (Nat × Nat))) (V := (fun i => ([.pointer (some ⟨p, 0, none⟩), .int .i64 (NN : Int), .pointer (some ⟨q, 0, none⟩), .pointer (some ⟨q, 0, none⟩), .pointer (some ⟨q, 2, none⟩), .slice AE NN cE, .int .i64 (NN : Int), .bool false, .bool false, .pointer (some ⟨p, 0, none⟩), .int .i64 (NE : Int), .pointer (some ⟨q, 0, none⟩), .int .i64 (NE : Int), .bool false, .bool false, .bool false, .pointer (some ⟨p, 0, none⟩), .int .i64 (NM : Int), .pointer (some ⟨q, 0, none⟩), .int .i64 (NM : Int), .bool false, .bool false, .bool false, .pointer (some ⟨p, 0, none⟩), .func (.func g) #[] lb, .bool false, .bool false][i]?).getD undef)) (BL := ([(0, 15, .pointer (some ⟨p, 0, none⟩)), (1, 16, .int .i64 (NN : Int)), (2, 17, .pointer (some ⟨q, 0, none⟩)), (3, 18, .pointer (some ⟨q, 0, none⟩)), (4, 19, .pointer (some ⟨q, 2, none⟩)), (5, 20, .slice AE NN cE), (6, 21, .int .i64 (NN : Int)), (7, 22, .bool false), (8, 23, .bool false), (9, 24, .pointer (some ⟨p, 0, none⟩)), (10, 25, .int .i64 (NE : Int)), (11, 26, .pointer (some ⟨q, 0, none⟩)), (12, 27, .int .i64 (NE : Int)), (13, 28, .bool false), (14, 29, .bool false), (15, 30, .bool false), (16, 31, .pointer (some ⟨p, 0, none⟩)), (17, 32, .int .i64 (NM : Int)), (18, 33, .pointer (some ⟨q, 0, none⟩)), (19, 34, .int .i64 (NM : Int)), (20, 35, .bool false), (21, 36, .bool false), (22, 37, .bool false), (23, 38, .pointer (some ⟨p, 0, none⟩)), (24, 39, .func (.func g) #[] lb), (25, 40, .bool false), (26, 41, .bool false)] : List (Nat × Nat × Value))) hF rfl (n := 27) hall rfl
    subst ha
    have HW1 := Lib.hid hW1
    have HX39 := Lib.hid (hX39 (hall 24 (by decide)))
    clear hF hall hW1 hX39
    refine hKc _ _ ?_
    simp only [setAll, List.setIfInBounds_toArray, List.set_cons_succ, List.set_cons_zero]
    have HM4 := Lib.hid (HM1.out.step HW1.out)
    have HB4 := Lib.hid (HB1.out.trans (HW1.out.mono HB1.out.size))
    clear HW1 HM1 HX3 H3L HXQ HQL HX39 hL
    generalize W1 = u4 at *
    go_upto_region 4 with fail
    have HM5 := Lib.hid (HM4.out.alloc (.cells #[.int .i64 0] 3))
    have HB5 := Lib.hid (HB4.out.alloc HB4.out.size (.cells #[.int .i64 0] 3))
    obtain ⟨b5, hb5⟩ : ∃ b, b = u4.heap.size := ⟨_, rfl⟩
    have H45 : Hid (b4 < b5) := Lib.hid (by rw [hb5]; exact lt_heap (HM4.out.get 1 rfl))
    have HW5 : Hid (w.heap.size ≤ b5) := Lib.hid (by rw [hb5]; exact HM4.out.below.size)
    rw [← hb5] at HM5 ⊢
    clear hb5 HM4
    generalize u4.alloc (.cells #[.int .i64 0] 3) = u5 at *
    go_wp2_with (first
      | (go_at_call 26
         refine (HAL.out u5 HB5.out).mono ?_
         rintro e u6 ⟨lb6, Fi, rfl, hb, hFi, hst⟩
         have HM6 := Lib.hid (HM5.out.step hb)
         have HB6 := Lib.hid (HB5.out.trans (hb.mono HB5.out.size))
         have HFi := Lib.hid hFi
         have HST := Lib.hid hst
         have HB56 := Lib.hid hb.size
         have HB55 := Lib.hid (lt_heap (HM5.out.get 2 rfl))
         clear hb hFi hst HM5))
    have hRb : ∀ k, Fi k → ¬ (k = b5 ∨ u6.heap.size ≤ k) := fun k hk hr => by
      obtain ⟨h1, h2⟩ := HFi.out k hk
      have h3 := HB55.out
      have h4 := HFO.out
      have h5 := HW5.out
      rcases h2 with h2 | h2
      · have := h4 k h2
        omega
      · omega
    refine wpIn_wide (n := 13).1 ?_
    refine wpIn_rangeFunc_ownH rfl (by omega) (gf := g) (lb := lb6) rfl trivial eg (HST.out (fun k => k = b5 ∨ u6.heap.size ≤ k) hRb) keptK_t (keptK_b fun _ h => .inr h) (Below.refl _ _) (fun _ => rfl)
      (fun pre W => Boxed W b5 3 (.int .i64 (pre.length : Int)) ∧ Kept (fun k => k = b5) u6 W)
      (fun _ xs W => ¬ xs <+: s.all)
      (OwnFrom.and (Own.from (boxed_own b5 3 (fun pre : List (Nat × Nat × Nat) => Value.int .i64 (pre.length : Int))) _) (ownFrom_kept (Nat.le_refl _)))
      (fun _ => ownFrom_pure _ _)
      ⟨HM6.out.get 2 rfl, Kept.refl _ _⟩
      (fun x a' W => ∃ Bx, u6.heap.size ≤ Bx ∧ W.heap[Bx]? = some (.cells #[.int .u64 (x.2.1 : Int), .int .u32 (x.2.2 : Int)] 34 (0, 0)) ∧ a' = { tmps := #[.pointer (some ⟨p, 0, none⟩), .pointer (some ⟨q, 0, none⟩), undef, .pointer (some ⟨b3, 0, none⟩), .pointer (some ⟨b4, 0, none⟩), .pointer (some ⟨b5, 0, none⟩), .int .i64 (x.1 : Int), .pointer (some ⟨Bx, 0, none⟩), undef, undef, undef, undef, undef, undef, undef, .pointer (some ⟨p, 0, none⟩), .int .i64 (NN : Int), .pointer (some ⟨q, 0, none⟩), .pointer (some ⟨q, 0, none⟩), .pointer (some ⟨q, 2, none⟩), .slice AE NN cE, .int .i64 (NN : Int), .bool false, .bool false, .pointer (some ⟨p, 0, none⟩), .int .i64 (NE : Int), .pointer (some ⟨q, 0, none⟩), .int .i64 (NE : Int), .bool false, .bool false, .bool false, .pointer (some ⟨p, 0, none⟩), .int .i64 (NM : Int), .pointer (some ⟨q, 0, none⟩), .int .i64 (NM : Int), .bool false, .bool false, .bool false, .pointer (some ⟨p, 0, none⟩), .func (.func g) #[] lb, .bool false, .bool false, .pointer (some ⟨p, 0, none⟩), .func (.func g) #[] lb6, .int .i64 (x.1 : Int), .agg #[.int .u64 (x.2.1 : Int), .int .u32 (x.2.2 : Int)], undef, undef, undef, undef, undef, undef, undef, undef, undef, undef, undef, undef, undef, undef, undef, undef, undef, undef, undef, undef, undef, undef, undef, undef, undef, undef, undef, undef, undef, undef, undef, undef, undef, undef, undef, undef, undef, undef, undef, undef, undef, undef, undef, undef, undef, undef, undef, undef], defers := [] })
      (fun x a' _ X Y row hs hg hr => by obtain ⟨Bx, h1, h2, h3⟩ := hs; exact ⟨Bx, h1, (grownBy_keeps_cells hg (fun r e => (hr r e).2) h2 rfl).trans h2, h3⟩)
      ?assign ?body ?done ?stop
    case assign =>
      rintro l pre x W K ⟨hb1, hk1⟩ hK
      unfold tEnc
      gi_wp2
      exact hK _ _ ((KeepsOthers.alloc _ _).from _) ((Kept.refl _ W).alloc _) ⟨hb1.alloc _, hk1.alloc _⟩ ⟨W.heap.size, hk1.size, heap_alloc_new W _, rfl⟩
    case body =>
      rintro l pre x a' W hl ⟨r, hr⟩ ⟨bN, hk1⟩ ⟨Bx, hBx, bX, rfl⟩ hlt
      have hb45 := H45.out
      obtain ⟨hw3, hw4⟩ := HW3.out
      have h5l := lt_heap (HM6.out.get 2 rfl)
      have hsz1 := hk1.size
      have X3 : Hid (W.heap[b3]? = some (.cells #[.pointer (some ⟨q, 0, none⟩)] 29 (0, 0))) := Lib.hid ((hk1.block b3 (by omega) (by omega)).trans (HM6.out.get 0 rfl))
      have X4 : Hid (W.heap[b4]? = some (.cells #[.bool false] 4 (0, 0))) := Lib.hid ((hk1.block b4 (by omega) (by omega)).trans (HM6.out.get 1 rfl))
      have HWW : Hid (Below w.heap.size w W) := Lib.hid (HM6.out.below.trans (hk1.below HM6.out.below.size fun k e => by rw [e]; exact HW5.out))
      have HN := Lib.hid bN
      have HK1 := Lib.hid hk1
      have HBX := Lib.hid bX
      have HBL := Lib.hid hBx
      have HLT : Hid (pre.length < 262144) := Lib.hid (by
        have h1 := Tb.allU_len s s.n
        have h2 := cntI_le s.ful s.n
        have h3 := hs.top
        show pre.length < 262144
        have h4 : pre.length < (s.allU s.n).length := hlt
        omega)
      have hlt' := HLT.out
      have x3 : W.cell? ⟨b3, 0, none⟩ = some (.pointer (some ⟨q, 0, none⟩)) := blk_cell X3.out 0
      obtain ⟨n0, hn0⟩ : ∃ n0, n0 = pre.length := ⟨_, rfl⟩
      have HPN := Lib.hid hn0
      rw [← hn0] at HN hlt'
      have zw : IntKind.i64.wrap ((n0 : Int) + 1) = (n0 : Int) + 1 := by rw [IntKind.wrap_i64]; omega
      clear hn0 bN hk1 bX hBx hlt h5l hb45 hw3 hw4
      obtain ⟨k, h, y⟩ := x
      dsimp only at *
      by_cases hf : s.isF (k : Int) = true
      · have hful : s.ful k = true := by
          unfold Tb.isF at hf
          rw [Bool.and_eq_true, Int.toNat_natCast] at hf
          exact hf.2
        have hkn : k < s.n := by
          unfold Tb.isF at hf
          rw [Bool.and_eq_true, Bool.and_eq_true, decide_eq_true_eq, decide_eq_true_eq] at hf
          omega
        have hgv : s.gtV (k : Int) = #[.int .u64 (s.eh k : Int), .int .u32 (s.ew k : Int)] := by
          unfold Tb.gtV
          rw [if_pos hf, Int.toNat_natCast]
        have HGT := Lib.hid (HRG.out W HWW.out (k : Int))
        rw [hf, hgv] at HGT
        obtain ⟨a, ha⟩ : ∃ a, a = s.eh k := ⟨_, rfl⟩
        obtain ⟨b, hb⟩ : ∃ b, b = s.ew k := ⟨_, rfl⟩
        rw [← ha, ← hb] at HGT
        by_cases hab : h = a ∧ y = b
        · have hne : ∀ V : World, (binOp .neq 34 (.agg #[.int .u64 (a : Int), .int .u32 (b : Int)]) (.agg #[.int .u64 (h : Int), .int .u32 (y : Int)])).run Try.prog V = .ok (.bool false) V := fun V => by
            rw [neqE, hab.1, hab.2]
            simp
          clear hf hful hkn hgv ha hb hab hs
          gi_wp2_with (first
            | (refine ⟨trivial, ?_⟩
               gi_at_call 39
               refine (CallsIn.inRound l (callsIn_wide.2 HGT.out)).mono ?_
               rintro e u7 ⟨rfl, hb⟩
               have HN7 : Hid (u7.heap[b5]? = some (.cells #[.int .i64 (n0 : Int)] 3 (0, 0))) := Lib.hid ((hb.block b5 (lt_heap HN.out)).trans HN.out)
               have HB7 := Lib.hid hb
               have HX8 := Lib.hid (heap_alloc_new u7 (.cells #[.int .u64 (a : Int), .int .u32 (b : Int)] 34))
               have z80 : (u7.alloc (.cells #[.int .u64 (a : Int), .int .u32 (b : Int)] 34)).cell? ⟨u7.heap.size, 0, none⟩ = some (.int .u64 (a : Int)) := blk_cell HX8.out 0
               have z81 : (u7.alloc (.cells #[.int .u64 (a : Int), .int .u32 (b : Int)] 34)).cell? ⟨u7.heap.size, 1, none⟩ = some (.int .u32 (b : Int)) := blk_cell HX8.out 1
               have hB7 : (u7.alloc (.cells #[.int .u64 (a : Int), .int .u32 (b : Int)] 34)).heap[Bx]? = some (.cells #[.int .u64 (h : Int), .int .u32 (y : Int)] 34 (0, 0)) := blk_old ((hb.block Bx (lt_heap HBX.out)).trans HBX.out) _
               have z70 : (u7.alloc (.cells #[.int .u64 (a : Int), .int .u32 (b : Int)] 34)).cell? ⟨Bx, 0, none⟩ = some (.int .u64 (h : Int)) := blk_cell hB7 0
               have z71 : (u7.alloc (.cells #[.int .u64 (a : Int), .int .u32 (b : Int)] 34)).cell? ⟨Bx, 1, none⟩ = some (.int .u32 (y : Int)) := blk_cell hB7 1
               have z5 : (u7.alloc (.cells #[.int .u64 (a : Int), .int .u32 (b : Int)] 34)).cell? ⟨b5, 0, none⟩ = some (.int .i64 (n0 : Int)) := blk_cell (blk_old HN7.out _) 0
               have y5 : (u7.alloc (.cells #[.int .u64 (a : Int), .int .u32 (b : Int)] 34)).frozen? ⟨b5, 0, none⟩ = false := blk_free (blk_old HN7.out _) 0
               clear hb hB7 x3))
          have hb8 := HB7.out.alloc HB7.out.size (.cells #[.int .u64 (a : Int), .int .u32 (b : Int)] 34)
          refine ⟨(show KeepsFrom u6.heap.size W _ from ⟨hb8.size, fun k o _ hk _ => (hb8.block k (Array.getElem?_eq_some_iff.1 hk).1).trans hk⟩).trans ((KeepsOthers.setCell _ _ _).from _), (Kept.of_below hb8 _).setCell (p := ⟨b5, 0, none⟩) (.inl (.inl rfl)) _, ?_, (HK1.out.step hb8).setCell (p := ⟨b5, 0, none⟩) (.inl rfl) _⟩
          have e : ((pre ++ [(k, h, y)]).length : Int) = (n0 : Int) + 1 := by
            rw [List.length_append, ← HPN.out]
            simp
          rw [e]
          exact blk_set (blk_old HN7.out _) 0 _
        · have hne : ∀ V : World, (binOp .neq 34 (.agg #[.int .u64 (a : Int), .int .u32 (b : Int)]) (.agg #[.int .u64 (h : Int), .int .u32 (y : Int)])).run Try.prog V = .ok (.bool true) V := fun V => by
            have q : ((a : Int) == (h : Int) && (b : Int) == (y : Int)) = false := by
              rw [Bool.eq_false_iff]
              intro e
              rw [Bool.and_eq_true, beq_iff_eq, beq_iff_eq] at e
              exact hab ⟨by omega, by omega⟩
            rw [neqE, q]
            rfl
          have HNO : Hid (¬ pre ++ [(k, h, y)] <+: s.all) := Lib.hid fun e => by
            obtain ⟨t, ht⟩ := e
            have hm : (k, h, y) ∈ s.all := by rw [← ht]; simp
            have := (Tb.allU_mem.1 hm).2.2
            injection this with e1 e2
            exact hab ⟨e1.trans ha.symm, e2.trans hb.symm⟩
          clear hf hful hkn hgv ha hb hab hs
          gi_wp2_with (first
            | (refine ⟨trivial, ?_⟩
               gi_at_call 39
               refine (CallsIn.inRound l (callsIn_wide.2 HGT.out)).mono ?_
               rintro e u7 ⟨rfl, hb⟩
               have HB7 := Lib.hid hb
               have HX8 := Lib.hid (heap_alloc_new u7 (.cells #[.int .u64 (a : Int), .int .u32 (b : Int)] 34))
               have z80 : (u7.alloc (.cells #[.int .u64 (a : Int), .int .u32 (b : Int)] 34)).cell? ⟨u7.heap.size, 0, none⟩ = some (.int .u64 (a : Int)) := blk_cell HX8.out 0
               have z81 : (u7.alloc (.cells #[.int .u64 (a : Int), .int .u32 (b : Int)] 34)).cell? ⟨u7.heap.size, 1, none⟩ = some (.int .u32 (b : Int)) := blk_cell HX8.out 1
               have hB7 : (u7.alloc (.cells #[.int .u64 (a : Int), .int .u32 (b : Int)] 34)).heap[Bx]? = some (.cells #[.int .u64 (h : Int), .int .u32 (y : Int)] 34 (0, 0)) := blk_old ((hb.block Bx (lt_heap HBX.out)).trans HBX.out) _
               have z70 : (u7.alloc (.cells #[.int .u64 (a : Int), .int .u32 (b : Int)] 34)).cell? ⟨Bx, 0, none⟩ = some (.int .u64 (h : Int)) := blk_cell hB7 0
               have z71 : (u7.alloc (.cells #[.int .u64 (a : Int), .int .u32 (b : Int)] 34)).cell? ⟨Bx, 1, none⟩ = some (.int .u32 (y : Int)) := blk_cell hB7 1
               have h4 : (u7.alloc (.cells #[.int .u64 (a : Int), .int .u32 (b : Int)] 34)).heap[b4]? = some (.cells #[.bool false] 4 (0, 0)) := blk_old ((hb.block b4 (lt_heap X4.out)).trans X4.out) _
               have c4 := blk_cell h4 0
               have f4 := blk_free h4 0
               clear hb hB7 h4 x3))
          have hb8 := HB7.out.alloc HB7.out.size (.cells #[.int .u64 (a : Int), .int .u32 (b : Int)] 34)
          exact ⟨(show KeepsFrom u6.heap.size W _ from ⟨hb8.size, fun k o _ hk _ => (hb8.block k (Array.getElem?_eq_some_iff.1 hk).1).trans hk⟩).trans ((KeepsOthers.setCell _ _ _).from _), HNO.out⟩
      · have hff : s.isF (k : Int) = false := by simpa using hf
        have hgv : s.gtV (k : Int) = #[.int .u64 0, .int .u32 0] := by
          unfold Tb.gtV
          rw [if_neg hf]
        have HGT := Lib.hid (HRG.out W HWW.out (k : Int))
        rw [hff, hgv] at HGT
        have HNO : Hid (¬ pre ++ [(k, h, y)] <+: s.all) := Lib.hid fun e => by
          obtain ⟨t, ht⟩ := e
          have hm : (k, h, y) ∈ s.all := by rw [← ht]; simp
          obtain ⟨q1, q2, _⟩ := Tb.allU_mem.1 hm
          refine hf ?_
          unfold Tb.isF
          rw [Int.toNat_natCast, q2, decide_eq_true (by omega), decide_eq_true (by show (k : Int) < (s.n : Int); have : k < s.n := q1; omega)]
          rfl
        clear hf hff hgv hs
        gi_wp2_with (first
          | (refine ⟨trivial, ?_⟩
             gi_at_call 39
             refine (CallsIn.inRound l (callsIn_wide.2 HGT.out)).mono ?_
             rintro e u7 ⟨rfl, hb⟩
             have HB7 := Lib.hid hb
             have h4 : (u7.alloc (.cells #[.int .u64 0, .int .u32 0] 34)).heap[b4]? = some (.cells #[.bool false] 4 (0, 0)) := blk_old ((hb.block b4 (lt_heap X4.out)).trans X4.out) _
             have c4 := blk_cell h4 0
             have f4 := blk_free h4 0
             clear hb h4 x3))
        have hb8 := HB7.out.alloc HB7.out.size (.cells #[.int .u64 0, .int .u32 0] 34)
        exact ⟨(show KeepsFrom u6.heap.size W _ from ⟨hb8.size, fun k o _ hk _ => (hb8.block k (Array.getElem?_eq_some_iff.1 hk).1).trans hk⟩).trans ((KeepsOthers.setCell _ _ _).from _), HNO.out⟩
    case stop =>
      rintro D c pre W _ hpre h _
      exact absurd hpre h
    case done =>
      rintro D ys W hD rfl ⟨bN, hk1⟩ hK
      have hb45 := H45.out
      obtain ⟨hw3, hw4⟩ := HW3.out
      have h5l := lt_heap (HM6.out.get 2 rfl)
      have HWD : Hid (w.heap.size ≤ D) := Lib.hid (by have := HM6.out.below.size; omega)
      have X3 : Hid (W.heap[b3]? = some (.cells #[.pointer (some ⟨q, 0, none⟩)] 29 (0, 0))) := Lib.hid ((hk1.block b3 (by omega) (by omega)).trans (HM6.out.get 0 rfl))
      have X4 : Hid (W.heap[b4]? = some (.cells #[.bool false] 4 (0, 0))) := Lib.hid ((hk1.block b4 (by omega) (by omega)).trans (HM6.out.get 1 rfl))
      have HWW : Hid (Below w.heap.size w W) := Lib.hid (HM6.out.below.trans (hk1.below HM6.out.below.size fun k e => by rw [e]; exact HW5.out))
      have HN : Hid (W.heap[b5]? = some (.cells #[.int .i64 (NE : Int)] 3 (0, 0))) := Lib.hid (by rw [HNE.out]; exact bN)
      have HK := Lib.hid hK
      have HB4L : Hid (w.heap.size ≤ b4) := Lib.hid (by omega)
      clear bN hk1 hK hD h5l hb45 hw3 hw4
      go_wp2_with fail
      go_loopw [10] (fun vi wr => ∃ i : Int, -1 ≤ i ∧ i ≤ (NN : Int) + 1 ∧ vi = .int .i64 i ∧ Below W.heap.size W wr) (fun vi _ => NN + 2 - (intOf vi + 1).toNat)
      case atStart => exact ⟨-1, by omega, by omega, rfl, Below.refl _ _⟩
      case round =>
        obtain ⟨i, hi1, hi2, rfl, hb⟩ := hrel
        have HB := Lib.hid hb
        have HW2 := Lib.hid (HWW.out.trans (hb.mono HWW.out.size))
        have x3 : wr.cell? ⟨b3, 0, none⟩ = some (.pointer (some ⟨q, 0, none⟩)) := blk_cell ((hb.block b3 (lt_heap X3.out)).trans X3.out) 0
        have x2 : wr.cell? ⟨q, 2, none⟩ = some (.slice AE NN cE) := (HW2.out.cell (p := ⟨q, 2, none⟩) HQL0.out).trans HXQ0.out
        clear hb
        by_cases hin : i ≤ (NN : Int)
        · have zi : IntKind.i64.wrap (i + 1) = i + 1 := by rw [IntKind.wrap_i64]; omega
          have HGL := Lib.hid (HPG.out wr HW2.out i)
          obtain ⟨a, b, hab⟩ : ∃ a b : Int, s.gtV i = #[.int .u64 a, .int .u32 b] := by
            unfold Tb.gtV
            split
            · exact ⟨_, _, rfl⟩
            · exact ⟨_, _, rfl⟩
          have HGR : Hid (∀ V, Below w.heap.size w V → Calls Try.prog 39 #[.pointer (some ⟨q, 0, none⟩), .int .i64 i] V (ret (.tuple #[.agg #[.int .u64 a, .int .u32 b], .bool (s.isF i)]) V)) := Lib.hid fun V hV => by
            have := HRG.out V hV i
            rwa [hab] at this
          rw [hab] at HGL
          obtain ⟨f, hf⟩ : ∃ f, f = s.isF i := ⟨_, rfl⟩
          rw [← hf] at HGL HGR
          have hne : ∀ V : World, (binOp .neq 34 (.agg #[.int .u64 a, .int .u32 b]) (.agg #[.int .u64 a, .int .u32 b])).run Try.prog V = .ok (.bool false) V := fun V => by
            rw [neqE]
            simp
          clear hab hf
          go_upto_region 15 with (first
            | (go_at_call 23
               refine HGL.out.mono ?_
               rintro e v1 ⟨rfl, hb⟩
               have HV1 := Lib.hid (HB.out.trans (hb.mono HB.out.size))
               clear hb))
          have HV2 := Lib.hid (HV1.out.alloc HV1.out.size (.cells #[.int .u64 a, .int .u32 b] 34))
          have HX11 := Lib.hid (heap_alloc_new v1 (.cells #[.int .u64 a, .int .u32 b] 34))
          obtain ⟨b11, hb11⟩ : ∃ b, b = v1.heap.size := ⟨_, rfl⟩
          rw [← hb11] at HX11 ⊢
          clear hb11 x3 x2 HV1
          generalize v1.alloc (.cells #[.int .u64 a, .int .u32 b] 34) = v2 at *
          have x3 : v2.cell? ⟨b3, 0, none⟩ = some (.pointer (some ⟨q, 0, none⟩)) := blk_cell ((HV2.out.block b3 (lt_heap X3.out)).trans X3.out) 0
          have HW3' := Lib.hid (HWW.out.trans (HV2.out.mono HWW.out.size))
          go_upto_region 16 with (first
            | (go_at_call 39
               refine (HGR.out v2 HW3'.out).mono ?_
               rintro e v3 ⟨rfl, hb⟩
               have HV3 := Lib.hid (HV2.out.trans (hb.mono HV2.out.size))
               have HX12 : Hid (v3.heap[b11]? = some (.cells #[.int .u64 a, .int .u32 b] 34 (0, 0))) := Lib.hid ((hb.block b11 (lt_heap HX11.out)).trans HX11.out)
               clear hb))
          have HV4 := Lib.hid (HV3.out.alloc HV3.out.size (.cells #[.int .u64 a, .int .u32 b] 34))
          have HX13 := Lib.hid (heap_alloc_new v3 (.cells #[.int .u64 a, .int .u32 b] 34))
          have HX14 : Hid ((v3.alloc (.cells #[.int .u64 a, .int .u32 b] 34)).heap[b11]? = some (.cells #[.int .u64 a, .int .u32 b] 34 (0, 0))) := Lib.hid (blk_old HX12.out _)
          obtain ⟨b13, hb13⟩ : ∃ b, b = v3.heap.size := ⟨_, rfl⟩
          rw [← hb13] at HX13 ⊢
          clear hb13 x3 HV3 HX12 HX11
          generalize v3.alloc (.cells #[.int .u64 a, .int .u32 b] 34) = v4 at *
          have y0 : v4.cell? ⟨b11, 0, none⟩ = some (.int .u64 a) := blk_cell HX14.out 0
          have y1 : v4.cell? ⟨b11, 1, none⟩ = some (.int .u32 b) := blk_cell HX14.out 1
          have z0 : v4.cell? ⟨b13, 0, none⟩ = some (.int .u64 a) := blk_cell HX13.out 0
          have z1 : v4.cell? ⟨b13, 1, none⟩ = some (.int .u32 b) := blk_cell HX13.out 1
          have hfb : (f != f) = false := by cases f <;> rfl
          go_wp2_with fail
          go_roundw
          case rel => exact ⟨i + 1, by omega, by omega, rfl, HV4.out⟩
          case measure => simp [intOf]; omega
        · have HRE2 := Lib.hid HRE.out
          have HN2 : Hid (wr.heap[b5]? = some (.cells #[.int .i64 (NE : Int)] 3 (0, 0))) := Lib.hid ((HB.out.block b5 (lt_heap HN.out)).trans HN.out)
          have X32 : Hid (wr.heap[b3]? = some (.cells #[.pointer (some ⟨q, 0, none⟩)] 29 (0, 0))) := Lib.hid ((HB.out.block b3 (lt_heap X3.out)).trans X3.out)
          have X42 : Hid (wr.heap[b4]? = some (.cells #[.bool false] 4 (0, 0))) := Lib.hid ((HB.out.block b4 (lt_heap X4.out)).trans X4.out)
          have hin' : ¬ i ≤ (NN : Int) := hin
          go_upto_region 18 with fail
          clear x3 x2
          refine wp_region_grow (C := fun W => Below wr.heap.size wr W) 4 94 [val (.int .i64 (NE : Int)), val (.pointer (some ⟨q, 0, none⟩)), val (.int .i64 (NE : Int)), val (.bool true)] (by kernel_rfl) rfl (by kernel_rfl) rfl ⟨stb_val _, stb_val _, stb_val _, stb_val _, trivial⟩ (Below.refl _ _).drew ?_ ?_
          · refine each_cons ?_ ?_
            · intro a W hW hd
              have h5 : a.tmps[5]?.getD undef = .pointer (some ⟨b5, 0, none⟩) := slot_eq (hd 5 (by decide))
              have hx := (hW.cell (p := ⟨b5, 0, none⟩) (lt_heap HN2.out)).trans (blk_cell HN2.out 0)
              refine grows_value _ hW (?_ : _ = _) rfl
              clear hd
              go_simp
            refine each_cons ?_ ?_
            · intro a W hW hd
              have h3 : a.tmps[3]?.getD undef = .pointer (some ⟨b3, 0, none⟩) := slot_eq (hd 3 (by decide))
              have hx := (hW.cell (p := ⟨b3, 0, none⟩) (lt_heap X32.out)).trans (blk_cell X32.out 0)
              refine grows_value _ hW (?_ : _ = _) rfl
              clear hd
              go_simp
            refine each_cons ?_ ?_
            · intro a W hW hd
              have h91 : a.tmps[91]?.getD undef = .pointer (some ⟨q, 0, none⟩) := slot_eq (hd 91 (by decide))
              refine grows_call (fn := 37) (args := #[.pointer (some ⟨q, 0, none⟩)]) ?_ ?_
              · clear hd
                go_simp
              · refine (HRE2.out W (HW2.out.trans (hW.mono HW2.out.size))).mono ?_
                rintro e w' ⟨he, hb⟩
                exact ⟨_, he, rfl, hb, hW.trans (hb.mono hW.size)⟩
            refine each_cons ?_ ?_
            · intro a W hW hd
              have h90 : a.tmps[90]?.getD undef = .int .i64 (NE : Int) := slot_eq (hd 90 (by decide))
              have h92 : a.tmps[92]?.getD undef = .int .i64 (NE : Int) := slot_eq (hd 92 (by decide))
              refine grows_value _ hW (?_ : _ = _) rfl
              clear hd
              go_simp
            exact each_nil
          · refine behind_val rfl ?_
            refine behind_val rfl ?_
            refine behind_val rfl ?_
            refine behind_val rfl ?_
            refine behind_nil fun u9 hCu9 hFu9 => ?_
            simp only [Act.put, List.setIfInBounds_toArray, List.set_cons_succ, List.set_cons_zero, List.drop_succ_cons, List.drop_zero]
            have X43 : Hid (u9.heap[b4]? = some (.cells #[.bool false] 4 (0, 0))) := Lib.hid ((hCu9.block b4 (lt_heap X42.out)).trans X42.out)
            have HB9 := Lib.hid (HW2.out.trans (hCu9.mono HW2.out.size))
            have HK9 : Hid (u9.heap[D]? = some (.deferred (some []))) := Lib.hid ((hCu9.block D (Nat.lt_of_lt_of_le (lt_heap HK.out) HB.out.size)).trans ((HB.out.block D (lt_heap HK.out)).trans HK.out))
            have c4 := blk_cell X43.out 0
            have f4 := blk_free X43.out 0
            clear hCu9 hFu9
            go_wp2_with fail
            clear c4 f4
            have hne : D ≠ b4 := fun e => by
              have h1 := HK9.out
              rw [e, X43.out] at h1
              cases h1
            have hD9 : (u9.setCell ⟨b4, 0, none⟩ (.bool true)).heap[D]? = some (.deferred (some [])) := blk_far HK9.out (p := ⟨b4, 0, none⟩) hne _
            have hc9 : (u9.setCell ⟨b4, 0, none⟩ (.bool true)).heap[b4]? = some (.cells #[.bool true] 4 (0, 0)) := blk_set X43.out 0 _
            have hg9 := grownBy_putObj' (u9.setCell ⟨b4, 0, none⟩ (.bool true)) D (.deferred none)
            have hb9 : Below w.heap.size w (u9.setCell ⟨b4, 0, none⟩ (.bool true)) := HB9.out.setCell (p := ⟨b4, 0, none⟩) HB4L.out _
            refine ⟨by simp, .inl ⟨_, _, rfl, run_takeDeferred hD9, ?_⟩⟩
            refine ⟨.bool true, results_flag rfl _ _ b4 true rfl ?_, rfl, hb9.grown hg9 hb9.size fun k e => by injection e with e; subst e; exact HWD.out⟩
            exact blk_cell ((hg9.block b4 (lt_heap hc9) fun e => hne (by injection e with e; exact e.symm)).trans hc9) 0

end
end Go.Proofs.Ythbjkchgbjopfaa
