import Derived.Test.YtkmakdhlaenaoaaGm40
/- Stage 11: the play's call: Again. -/
namespace Go.Proofs.Ytkmakdhlaenaoaa
set_option maxRecDepth 100000
open Go.RowKit Go.Shelf
section
variable {w W : World} {X : Nat → Prop} {b p q : Nat} {E : Option Addr} {hc tk : Nat} {hs : List (Nat × Nat)} {s : Wh} {m : Nat}
set_option maxHeartbeats 2000000 in
theorem call_2 (h : PL w X W b p q E hc hs tk s s) (hf : s.Fit m) (hm : m < 4611686018427387904) (hl : hs.length ≤ 65535) (hh : Int) (h9 : hh ≤ 9223372036854775807) (at_ what : Nat) (_ha : at_ < 18446744073709551616) : Calls Try.prog 10 #[.pointer (some ⟨b, 0, none⟩), .agg #[.int .i64 2, .int .i64 hh, .int .u64 (at_ : Int), .int .u64 (what : Int)]] W (CallEnd w W X b hs tk m) := by
  obtain ⟨a2, ha2'⟩ : ∃ a2, a2 = (s.now + at_) % 18446744073709551616 := ⟨_, rfl⟩
  have ha2 : a2 < 18446744073709551616 := by omega
  have za : IntKind.u64.wrap ((s.now : Int) + (at_ : Int)) = (a2 : Int) := by rw [IntKind.wrap_u64]; omega
  clear ha2'
  obtain ⟨gi, gk, hform⟩ := hndOf_form hs hh what
  have HHF := Lib.hid hform
  have HF := Lib.hid hf
  have HP1 := Lib.hid (h.box (.cells #[.int .i64 2, .int .i64 hh, .int .u64 (at_ : Int), .int .u64 (what : Int)] 41))
  have HO1 : Hid ((W.alloc (.cells #[.int .i64 2, .int .i64 hh, .int .u64 (at_ : Int), .int .u64 (what : Int)] 41)).heap[W.heap.size]? = some (.cells #[.int .i64 2, .int .i64 hh, .int .u64 (at_ : Int), .int .u64 (what : Int)] 41 (0, 0))) := Lib.hid (heap_alloc_new W _)
  have HX1 : Hid (∀ j, X j → (W.alloc (.cells #[.int .i64 2, .int .i64 hh, .int .u64 (at_ : Int), .int .u64 (what : Int)] 41)).heap[j]? = W.heap[j]?) := Lib.hid fun j hj => (below_alloc W (.cells #[.int .i64 2, .int .i64 hh, .int .u64 (at_ : Int), .int .u64 (what : Int)] 41)).block j (h.xo j hj)
  obtain ⟨ob, hob⟩ : ∃ ob, ob = W.heap.size := ⟨_, rfl⟩
  rw [← hob] at HO1 HP1
  clear h hf hform
  go_enter Try.func10, Try.ntmps10
  go_upto_region 1 with fail
  change Code.wp _ _ _ _ (W.alloc (.cells #[.int .i64 2, .int .i64 hh, .int .u64 (at_ : Int), .int .u64 (what : Int)] 41))
  rw [← hob]
  clear hob
  generalize W.alloc (.cells #[.int .i64 2, .int .i64 hh, .int .u64 (at_ : Int), .int .u64 (what : Int)] 41) = u1 at *
  have HHD := Lib.hid (handle_all HP1.out hl (2) hh h9 at_ what)
  rw [HHF.out] at HHD
  go_upto_region 2 with (first
    | (refine wpList_load_row rfl 41 (.tmp 3) rfl ob rfl 41 #[.int .i64 2, .int .i64 hh, .int .u64 (at_ : Int), .int .u64 (what : Int)] (0, 0) _ HO1.out Try.underlying41 rfl (by kernel_rfl) ?_)
    | (go_at_call 24
       refine HHD.out.mono ?_
       rintro e u2 ⟨rfl, hb⟩
       have HP2 := Lib.hid (HP1.out.step hb)
       have HO2 := Lib.hid (box_step HO1.out hb)
       have HX2 : Hid (∀ j, X j → u2.heap[j]? = W.heap[j]?) := Lib.hid fun j hj => (hb.block j (HP1.out.xo j (.inl hj))).trans (HX1.out j hj)
       clear hb HP1 HO1 HX1 HHD))
  have HP := Lib.hid (HP2.out.box (.cells #[.int .i64 gi, .int .u64 (gk : Int)] 46))
  have HO := Lib.hid (box_step HO2.out (below_alloc u2 (.cells #[.int .i64 gi, .int .u64 (gk : Int)] 46)))
  have HH : Hid ((u2.alloc (.cells #[.int .i64 gi, .int .u64 (gk : Int)] 46)).heap[u2.heap.size]? = some (.cells #[.int .i64 gi, .int .u64 (gk : Int)] 46 (0, 0))) := Lib.hid (heap_alloc_new u2 _)
  have HX : Hid (∀ j, X j → (u2.alloc (.cells #[.int .i64 gi, .int .u64 (gk : Int)] 46)).heap[j]? = W.heap[j]?) := Lib.hid fun j hj => ((below_alloc u2 (.cells #[.int .i64 gi, .int .u64 (gk : Int)] 46)).block j (HP2.out.xo j (.inl hj))).trans (HX2.out j hj)
  clear HP2 HO2 HX2 HHF
  change Code.wp _ _ _ _ (u2.alloc (.cells #[.int .i64 gi, .int .u64 (gk : Int)] 46))
  generalize u2.heap.size = gb at *
  generalize u2.alloc (.cells #[.int .i64 gi, .int .u64 (gk : Int)] 46) = u3 at *
  have y0 : u3.cell? ⟨ob, 0, none⟩ = some (.int .i64 (2)) := blk_cell HO.out 0
  have y2 : u3.cell? ⟨ob, 2, none⟩ = some (.int .u64 (at_ : Int)) := blk_cell HO.out 2
  have y3 : u3.cell? ⟨ob, 3, none⟩ = some (.int .u64 (what : Int)) := blk_cell HO.out 3
  have HNW : Hid (∀ b : Bool, (iffW b (s.again gi gk a2) s).now = s.now) := Lib.hid fun b => by
    cases b
    · rfl
    · exact Wh.again_now s gi gk a2
  go_upto_region 6 with fail
  clear y0 y2 y3
  rename_i Kc hKc
  refine wp_region_invG (fun a0 l a W => l.size = 34 ∧ a0.tmps.size = 155 ∧ PL w (fun k => (X k ∨ k = ob) ∨ k = gb) W b p q E hc hs tk (iffW (l.getD 15 false) (s.again gi gk a2) s) (iffW (l.getD 31 false) (s.again gi gk a2) s) ∧ (∀ j, (fun k => (X k ∨ k = ob) ∨ k = gb) j → W.heap[j]? = u3.heap[j]?) ∧ FrU a0 ([(0, 31, .pointer (some ⟨b, 0, none⟩)), (1, 32, .pointer (some ⟨b, 0, none⟩)), (2, 33, .pointer (some ⟨b, 0, none⟩)), (3, 34, .pointer (some ⟨p, 0, none⟩)), (4, 35, .agg #[.int .i64 gi, .int .u64 (gk : Int)]), (5, 36, .pointer (some ⟨b, 0, none⟩)), (6, 37, .pointer (some ⟨b, 0, none⟩)), (7, 38, .pointer (some ⟨b, 1, none⟩)), (8, 39, .pointer (some ⟨q, 0, none⟩)), (9, 40, .pointer (some ⟨q, 0, none⟩)), (10, 41, .pointer (some ⟨q, 2, none⟩)), (11, 42, .int .u64 (s.now : Int)), (12, 43, .pointer (some ⟨ob, 2, none⟩)), (13, 44, .int .u64 (at_ : Int)), (14, 45, .int .u64 (a2 : Int)), (15, 46, .int .i64 (s.againE gi gk a2)), (16, 47, .pointer (some ⟨b, 0, none⟩)), (17, 48, .pointer (some ⟨b, 0, none⟩)), (18, 49, .pointer (some ⟨b, 1, none⟩)), (19, 50, .pointer (some ⟨q, 0, none⟩)), (20, 51, .agg #[.int .i64 gi, .int .u64 (gk : Int)]), (21, 52, .pointer (some ⟨b, 0, none⟩)), (22, 53, .pointer (some ⟨b, 0, none⟩)), (23, 54, .pointer (some ⟨b, 1, none⟩)), (24, 55, .pointer (some ⟨q, 0, none⟩)), (25, 56, .pointer (some ⟨q, 0, none⟩)), (26, 57, .pointer (some ⟨q, 2, none⟩)), (27, 58, .int .u64 (s.now : Int)), (28, 59, .pointer (some ⟨ob, 2, none⟩)), (29, 60, .int .u64 (at_ : Int)), (30, 61, .int .u64 (a2 : Int)), (31, 62, .int .i64 (s.againE gi gk a2)), (32, 63, .bool true), (33, 4, .bool true)] : List (Nat × Nat × Value)) l a) ?_ ?_ ?_ ?_ ?_ ?_
  · kernel_rfl
  · exact fun _ _ _ h => h.1
  · kernel_rfl
  · exact ⟨by simp, rfl, by rw [getD_none, getD_none]; exact HP.out.step (Below.refl _ _).drew, fun _ _ => rfl, FrU.start _ _ _⟩
  · intro l a W i5 o hI ho hn hdep
    obtain ⟨hl, hsz, hT, hK, hF⟩ := hI
    have x0 : W.cell? ⟨b, 0, none⟩ = some (.pointer (some ⟨p, 0, none⟩)) := blk_cell hT.blk 0
    have x1 : W.cell? ⟨b, 1, none⟩ = some (.pointer (some ⟨q, 0, none⟩)) := blk_cell hT.blk 1
    have xn : W.cell? ⟨q, 2, none⟩ = some (.int .u64 (s.now : Int)) := by
      have h1 := hT.nowc.1
      rw [HNW.out] at h1
      exact h1
    have y2 : W.cell? ⟨ob, 2, none⟩ = some (.int .u64 (at_ : Int)) := blk_cell ((hK ob (.inl (.inr rfl))).trans HO.out) 2
    have g0 : W.cell? ⟨gb, 0, none⟩ = some (.int .i64 gi) := blk_cell ((hK gb (.inr rfl)).trans HH.out) 0
    have g1 : W.cell? ⟨gb, 1, none⟩ = some (.int .u64 (gk : Int)) := blk_cell ((hK gb (.inr rfl)).trans HH.out) 1
    match i5, ho, hn with
    | 0, ho, hn =>
      simp only [List.getElem?_toArray, List.getElem?_cons_zero, Option.some.injEq] at ho
      subst ho
      refine ⟨rfl, ?_⟩
      have h0 : a.tmps[0]?.getD undef = .pointer (some ⟨b, 0, none⟩) := hF.base 0 (by simp) rfl
      exact owp_value (.pointer (some ⟨b, 0, none⟩)) (w' := W) (by clear hdep; go_simp) ⟨by simp [hl], hsz, by rw [iffW_ne (by decide), iffW_ne (by decide)]; exact hT, hK, hF.put 0 31 _ (by rw [hsz]; decide) (by simp) (by simp) (by simp)⟩
    | 1, ho, hn =>
      simp only [List.getElem?_toArray, List.getElem?_cons_zero, List.getElem?_cons_succ, Option.some.injEq] at ho
      subst ho
      refine ⟨rfl, ?_⟩
      have h31 := hF.slot (i := 0) (s := 31) (v := .pointer (some ⟨b, 0, none⟩)) (by simp) (hdep ⟨0, .data⟩ (by simp) rfl)
      exact owp_value (.pointer (some ⟨b, 0, none⟩)) (w' := W) (by clear hdep; go_simp) ⟨by simp [hl], hsz, by rw [iffW_ne (by decide), iffW_ne (by decide)]; exact hT, hK, hF.put 1 32 _ (by rw [hsz]; decide) (by simp) (by simp) (by simp)⟩
    | 2, ho, hn =>
      simp only [List.getElem?_toArray, List.getElem?_cons_zero, List.getElem?_cons_succ, Option.some.injEq] at ho
      subst ho
      refine ⟨rfl, ?_⟩
      have h32 := hF.slot (i := 1) (s := 32) (v := .pointer (some ⟨b, 0, none⟩)) (by simp) (hdep ⟨1, .data⟩ (by simp) rfl)
      exact owp_value (.pointer (some ⟨b, 0, none⟩)) (w' := W) (by clear hdep; go_simp) ⟨by simp [hl], hsz, by rw [iffW_ne (by decide), iffW_ne (by decide)]; exact hT, hK, hF.put 2 33 _ (by rw [hsz]; decide) (by simp) (by simp) (by simp)⟩
    | 3, ho, hn =>
      simp only [List.getElem?_toArray, List.getElem?_cons_zero, List.getElem?_cons_succ, Option.some.injEq] at ho
      subst ho
      refine ⟨rfl, ?_⟩
      have h33 := hF.slot (i := 2) (s := 33) (v := .pointer (some ⟨b, 0, none⟩)) (by simp) (hdep ⟨2, .data⟩ (by simp) rfl)
      exact owp_value (.pointer (some ⟨p, 0, none⟩)) (w' := W) (by clear hdep; go_simp) ⟨by simp [hl], hsz, by rw [iffW_ne (by decide), iffW_ne (by decide)]; exact hT, hK, hF.put 3 34 _ (by rw [hsz]; decide) (by simp) (by simp) (by simp)⟩
    | 4, ho, hn =>
      simp only [List.getElem?_toArray, List.getElem?_cons_zero, List.getElem?_cons_succ, Option.some.injEq] at ho
      subst ho
      refine ⟨rfl, ?_⟩
      have h5 : a.tmps[5]?.getD undef = .pointer (some ⟨gb, 0, none⟩) := hF.base 5 (by simp) rfl
      exact owp_value (.agg #[.int .i64 gi, .int .u64 (gk : Int)]) (w' := W) (by clear hdep; go_simp) ⟨by simp [hl], hsz, by rw [iffW_ne (by decide), iffW_ne (by decide)]; exact hT, hK, hF.put 4 35 _ (by rw [hsz]; decide) (by simp) (by simp) (by simp)⟩
    | 5, ho, hn =>
      simp only [List.getElem?_toArray, List.getElem?_cons_zero, List.getElem?_cons_succ, Option.some.injEq] at ho
      subst ho
      refine ⟨rfl, ?_⟩
      have h0 : a.tmps[0]?.getD undef = .pointer (some ⟨b, 0, none⟩) := hF.base 0 (by simp) rfl
      exact owp_value (.pointer (some ⟨b, 0, none⟩)) (w' := W) (by clear hdep; go_simp) ⟨by simp [hl], hsz, by rw [iffW_ne (by decide), iffW_ne (by decide)]; exact hT, hK, hF.put 5 36 _ (by rw [hsz]; decide) (by simp) (by simp) (by simp)⟩
    | 6, ho, hn =>
      simp only [List.getElem?_toArray, List.getElem?_cons_zero, List.getElem?_cons_succ, Option.some.injEq] at ho
      subst ho
      refine ⟨rfl, ?_⟩
      have h36 := hF.slot (i := 5) (s := 36) (v := .pointer (some ⟨b, 0, none⟩)) (by simp) (hdep ⟨5, .data⟩ (by simp) rfl)
      exact owp_value (.pointer (some ⟨b, 0, none⟩)) (w' := W) (by clear hdep; go_simp) ⟨by simp [hl], hsz, by rw [iffW_ne (by decide), iffW_ne (by decide)]; exact hT, hK, hF.put 6 37 _ (by rw [hsz]; decide) (by simp) (by simp) (by simp)⟩
    | 7, ho, hn =>
      simp only [List.getElem?_toArray, List.getElem?_cons_zero, List.getElem?_cons_succ, Option.some.injEq] at ho
      subst ho
      refine ⟨rfl, ?_⟩
      have h37 := hF.slot (i := 6) (s := 37) (v := .pointer (some ⟨b, 0, none⟩)) (by simp) (hdep ⟨6, .data⟩ (by simp) rfl)
      exact owp_value (.pointer (some ⟨b, 1, none⟩)) (w' := W) (by clear hdep; go_simp) ⟨by simp [hl], hsz, by rw [iffW_ne (by decide), iffW_ne (by decide)]; exact hT, hK, hF.put 7 38 _ (by rw [hsz]; decide) (by simp) (by simp) (by simp)⟩
    | 8, ho, hn =>
      simp only [List.getElem?_toArray, List.getElem?_cons_zero, List.getElem?_cons_succ, Option.some.injEq] at ho
      subst ho
      refine ⟨rfl, ?_⟩
      have h38 := hF.slot (i := 7) (s := 38) (v := .pointer (some ⟨b, 1, none⟩)) (by simp) (hdep ⟨7, .data⟩ (by simp) rfl)
      exact owp_value (.pointer (some ⟨q, 0, none⟩)) (w' := W) (by clear hdep; go_simp) ⟨by simp [hl], hsz, by rw [iffW_ne (by decide), iffW_ne (by decide)]; exact hT, hK, hF.put 8 39 _ (by rw [hsz]; decide) (by simp) (by simp) (by simp)⟩
    | 9, ho, hn =>
      simp only [List.getElem?_toArray, List.getElem?_cons_zero, List.getElem?_cons_succ, Option.some.injEq] at ho
      subst ho
      refine ⟨rfl, ?_⟩
      have h39 := hF.slot (i := 8) (s := 39) (v := .pointer (some ⟨q, 0, none⟩)) (by simp) (hdep ⟨8, .data⟩ (by simp) rfl)
      exact owp_value (.pointer (some ⟨q, 0, none⟩)) (w' := W) (by clear hdep; go_simp) ⟨by simp [hl], hsz, by rw [iffW_ne (by decide), iffW_ne (by decide)]; exact hT, hK, hF.put 9 40 _ (by rw [hsz]; decide) (by simp) (by simp) (by simp)⟩
    | 10, ho, hn =>
      simp only [List.getElem?_toArray, List.getElem?_cons_zero, List.getElem?_cons_succ, Option.some.injEq] at ho
      subst ho
      refine ⟨rfl, ?_⟩
      have h40 := hF.slot (i := 9) (s := 40) (v := .pointer (some ⟨q, 0, none⟩)) (by simp) (hdep ⟨9, .data⟩ (by simp) rfl)
      exact owp_value (.pointer (some ⟨q, 2, none⟩)) (w' := W) (by clear hdep; go_simp) ⟨by simp [hl], hsz, by rw [iffW_ne (by decide), iffW_ne (by decide)]; exact hT, hK, hF.put 10 41 _ (by rw [hsz]; decide) (by simp) (by simp) (by simp)⟩
    | 11, ho, hn =>
      simp only [List.getElem?_toArray, List.getElem?_cons_zero, List.getElem?_cons_succ, Option.some.injEq] at ho
      subst ho
      refine ⟨rfl, ?_⟩
      have h41 := hF.slot (i := 10) (s := 41) (v := .pointer (some ⟨q, 2, none⟩)) (by simp) (hdep ⟨10, .data⟩ (by simp) rfl)
      exact owp_value (.int .u64 (s.now : Int)) (w' := W) (by clear hdep; go_simp) ⟨by simp [hl], hsz, by rw [iffW_ne (by decide), iffW_ne (by decide)]; exact hT, hK, hF.put 11 42 _ (by rw [hsz]; decide) (by simp) (by simp) (by simp)⟩
    | 12, ho, hn =>
      simp only [List.getElem?_toArray, List.getElem?_cons_zero, List.getElem?_cons_succ, Option.some.injEq] at ho
      subst ho
      refine ⟨rfl, ?_⟩
      have h3 : a.tmps[3]?.getD undef = .pointer (some ⟨ob, 0, none⟩) := hF.base 3 (by simp) rfl
      exact owp_value (.pointer (some ⟨ob, 2, none⟩)) (w' := W) (by clear hdep; go_simp) ⟨by simp [hl], hsz, by rw [iffW_ne (by decide), iffW_ne (by decide)]; exact hT, hK, hF.put 12 43 _ (by rw [hsz]; decide) (by simp) (by simp) (by simp)⟩
    | 13, ho, hn =>
      simp only [List.getElem?_toArray, List.getElem?_cons_zero, List.getElem?_cons_succ, Option.some.injEq] at ho
      subst ho
      refine ⟨rfl, ?_⟩
      have h43 := hF.slot (i := 12) (s := 43) (v := .pointer (some ⟨ob, 2, none⟩)) (by simp) (hdep ⟨12, .data⟩ (by simp) rfl)
      exact owp_value (.int .u64 (at_ : Int)) (w' := W) (by clear hdep; go_simp) ⟨by simp [hl], hsz, by rw [iffW_ne (by decide), iffW_ne (by decide)]; exact hT, hK, hF.put 13 44 _ (by rw [hsz]; decide) (by simp) (by simp) (by simp)⟩
    | 14, ho, hn =>
      simp only [List.getElem?_toArray, List.getElem?_cons_zero, List.getElem?_cons_succ, Option.some.injEq] at ho
      subst ho
      refine ⟨rfl, ?_⟩
      have h42 := hF.slot (i := 11) (s := 42) (v := .int .u64 (s.now : Int)) (by simp) (hdep ⟨11, .data⟩ (by simp) rfl)
      have h44 := hF.slot (i := 13) (s := 44) (v := .int .u64 (at_ : Int)) (by simp) (hdep ⟨13, .data⟩ (by simp) rfl)
      exact owp_value (.int .u64 (a2 : Int)) (w' := W) (by clear hdep; go_simp) ⟨by simp [hl], hsz, by rw [iffW_ne (by decide), iffW_ne (by decide)]; exact hT, hK, hF.put 14 45 _ (by rw [hsz]; decide) (by simp) (by simp) (by simp)⟩
    | 15, ho, hn =>
      simp only [List.getElem?_toArray, List.getElem?_cons_zero, List.getElem?_cons_succ, Option.some.injEq] at ho
      subst ho
      refine ⟨rfl, ?_⟩
      have h34 := hF.slot (i := 3) (s := 34) (v := .pointer (some ⟨p, 0, none⟩)) (by simp) (hdep ⟨3, .data⟩ (by simp) rfl)
      have h35 := hF.slot (i := 4) (s := 35) (v := .agg #[.int .i64 gi, .int .u64 (gk : Int)]) (by simp) (hdep ⟨4, .data⟩ (by simp) rfl)
      have h45 := hF.slot (i := 14) (s := 45) (v := .int .u64 (a2 : Int)) (by simp) (hdep ⟨14, .data⟩ (by simp) rfl)
      rw [getD_no hn] at hT
      have hTs : PL w (fun k => (X k ∨ k = ob) ∨ k = gb) W b p q E hc hs tk s (iffW (l.getD 31 false) (s.again gi gk a2) s) := hT
      obtain ⟨Fx, hpx, _, hturn⟩ := hTs.left
      refine owp_call (fn := 17) (args := #[.pointer (some ⟨p, 0, none⟩), .agg #[.int .i64 gi, .int .u64 (gk : Int)], .int .u64 (a2 : Int)]) (by clear hdep; go_simp) ?_
      refine (pw_again hpx HF.out gi gk a2 ha2).mono ?_
      rintro e w' ⟨rfl, F', hp', he'⟩
      have hh := hturn _ _ _ hp' he'
      exact ⟨_, rfl, by simp [hl], hsz, by rw [iffW_at hn, iffW_ne (show 31 ≠ 15 by decide)]; exact hh.1, fun j hj => (hh.2 j hj).trans (hK j hj), hF.put 15 46 _ (by rw [hsz]; decide) (by simp) (by simp) (by simp)⟩
    | 16, ho, hn =>
      simp only [List.getElem?_toArray, List.getElem?_cons_zero, List.getElem?_cons_succ, Option.some.injEq] at ho
      subst ho
      refine ⟨rfl, ?_⟩
      have h0 : a.tmps[0]?.getD undef = .pointer (some ⟨b, 0, none⟩) := hF.base 0 (by simp) rfl
      exact owp_value (.pointer (some ⟨b, 0, none⟩)) (w' := W) (by clear hdep; go_simp) ⟨by simp [hl], hsz, by rw [iffW_ne (by decide), iffW_ne (by decide)]; exact hT, hK, hF.put 16 47 _ (by rw [hsz]; decide) (by simp) (by simp) (by simp)⟩
    | 17, ho, hn =>
      simp only [List.getElem?_toArray, List.getElem?_cons_zero, List.getElem?_cons_succ, Option.some.injEq] at ho
      subst ho
      refine ⟨rfl, ?_⟩
      have h47 := hF.slot (i := 16) (s := 47) (v := .pointer (some ⟨b, 0, none⟩)) (by simp) (hdep ⟨16, .data⟩ (by simp) rfl)
      exact owp_value (.pointer (some ⟨b, 0, none⟩)) (w' := W) (by clear hdep; go_simp) ⟨by simp [hl], hsz, by rw [iffW_ne (by decide), iffW_ne (by decide)]; exact hT, hK, hF.put 17 48 _ (by rw [hsz]; decide) (by simp) (by simp) (by simp)⟩
    | 18, ho, hn =>
      simp only [List.getElem?_toArray, List.getElem?_cons_zero, List.getElem?_cons_succ, Option.some.injEq] at ho
      subst ho
      refine ⟨rfl, ?_⟩
      have h48 := hF.slot (i := 17) (s := 48) (v := .pointer (some ⟨b, 0, none⟩)) (by simp) (hdep ⟨17, .data⟩ (by simp) rfl)
      exact owp_value (.pointer (some ⟨b, 1, none⟩)) (w' := W) (by clear hdep; go_simp) ⟨by simp [hl], hsz, by rw [iffW_ne (by decide), iffW_ne (by decide)]; exact hT, hK, hF.put 18 49 _ (by rw [hsz]; decide) (by simp) (by simp) (by simp)⟩
    | 19, ho, hn =>
      simp only [List.getElem?_toArray, List.getElem?_cons_zero, List.getElem?_cons_succ, Option.some.injEq] at ho
      subst ho
      refine ⟨rfl, ?_⟩
      have h49 := hF.slot (i := 18) (s := 49) (v := .pointer (some ⟨b, 1, none⟩)) (by simp) (hdep ⟨18, .data⟩ (by simp) rfl)
      exact owp_value (.pointer (some ⟨q, 0, none⟩)) (w' := W) (by clear hdep; go_simp) ⟨by simp [hl], hsz, by rw [iffW_ne (by decide), iffW_ne (by decide)]; exact hT, hK, hF.put 19 50 _ (by rw [hsz]; decide) (by simp) (by simp) (by simp)⟩
    | 20, ho, hn =>
      simp only [List.getElem?_toArray, List.getElem?_cons_zero, List.getElem?_cons_succ, Option.some.injEq] at ho
      subst ho
      refine ⟨rfl, ?_⟩
      have h5 : a.tmps[5]?.getD undef = .pointer (some ⟨gb, 0, none⟩) := hF.base 5 (by simp) rfl
      exact owp_value (.agg #[.int .i64 gi, .int .u64 (gk : Int)]) (w' := W) (by clear hdep; go_simp) ⟨by simp [hl], hsz, by rw [iffW_ne (by decide), iffW_ne (by decide)]; exact hT, hK, hF.put 20 51 _ (by rw [hsz]; decide) (by simp) (by simp) (by simp)⟩
    | 21, ho, hn =>
      simp only [List.getElem?_toArray, List.getElem?_cons_zero, List.getElem?_cons_succ, Option.some.injEq] at ho
      subst ho
      refine ⟨rfl, ?_⟩
      have h0 : a.tmps[0]?.getD undef = .pointer (some ⟨b, 0, none⟩) := hF.base 0 (by simp) rfl
      exact owp_value (.pointer (some ⟨b, 0, none⟩)) (w' := W) (by clear hdep; go_simp) ⟨by simp [hl], hsz, by rw [iffW_ne (by decide), iffW_ne (by decide)]; exact hT, hK, hF.put 21 52 _ (by rw [hsz]; decide) (by simp) (by simp) (by simp)⟩
    | 22, ho, hn =>
      simp only [List.getElem?_toArray, List.getElem?_cons_zero, List.getElem?_cons_succ, Option.some.injEq] at ho
      subst ho
      refine ⟨rfl, ?_⟩
      have h52 := hF.slot (i := 21) (s := 52) (v := .pointer (some ⟨b, 0, none⟩)) (by simp) (hdep ⟨21, .data⟩ (by simp) rfl)
      exact owp_value (.pointer (some ⟨b, 0, none⟩)) (w' := W) (by clear hdep; go_simp) ⟨by simp [hl], hsz, by rw [iffW_ne (by decide), iffW_ne (by decide)]; exact hT, hK, hF.put 22 53 _ (by rw [hsz]; decide) (by simp) (by simp) (by simp)⟩
    | 23, ho, hn =>
      simp only [List.getElem?_toArray, List.getElem?_cons_zero, List.getElem?_cons_succ, Option.some.injEq] at ho
      subst ho
      refine ⟨rfl, ?_⟩
      have h53 := hF.slot (i := 22) (s := 53) (v := .pointer (some ⟨b, 0, none⟩)) (by simp) (hdep ⟨22, .data⟩ (by simp) rfl)
      exact owp_value (.pointer (some ⟨b, 1, none⟩)) (w' := W) (by clear hdep; go_simp) ⟨by simp [hl], hsz, by rw [iffW_ne (by decide), iffW_ne (by decide)]; exact hT, hK, hF.put 23 54 _ (by rw [hsz]; decide) (by simp) (by simp) (by simp)⟩
    | 24, ho, hn =>
      simp only [List.getElem?_toArray, List.getElem?_cons_zero, List.getElem?_cons_succ, Option.some.injEq] at ho
      subst ho
      refine ⟨rfl, ?_⟩
      have h54 := hF.slot (i := 23) (s := 54) (v := .pointer (some ⟨b, 1, none⟩)) (by simp) (hdep ⟨23, .data⟩ (by simp) rfl)
      exact owp_value (.pointer (some ⟨q, 0, none⟩)) (w' := W) (by clear hdep; go_simp) ⟨by simp [hl], hsz, by rw [iffW_ne (by decide), iffW_ne (by decide)]; exact hT, hK, hF.put 24 55 _ (by rw [hsz]; decide) (by simp) (by simp) (by simp)⟩
    | 25, ho, hn =>
      simp only [List.getElem?_toArray, List.getElem?_cons_zero, List.getElem?_cons_succ, Option.some.injEq] at ho
      subst ho
      refine ⟨rfl, ?_⟩
      have h55 := hF.slot (i := 24) (s := 55) (v := .pointer (some ⟨q, 0, none⟩)) (by simp) (hdep ⟨24, .data⟩ (by simp) rfl)
      exact owp_value (.pointer (some ⟨q, 0, none⟩)) (w' := W) (by clear hdep; go_simp) ⟨by simp [hl], hsz, by rw [iffW_ne (by decide), iffW_ne (by decide)]; exact hT, hK, hF.put 25 56 _ (by rw [hsz]; decide) (by simp) (by simp) (by simp)⟩
    | 26, ho, hn =>
      simp only [List.getElem?_toArray, List.getElem?_cons_zero, List.getElem?_cons_succ, Option.some.injEq] at ho
      subst ho
      refine ⟨rfl, ?_⟩
      have h56 := hF.slot (i := 25) (s := 56) (v := .pointer (some ⟨q, 0, none⟩)) (by simp) (hdep ⟨25, .data⟩ (by simp) rfl)
      exact owp_value (.pointer (some ⟨q, 2, none⟩)) (w' := W) (by clear hdep; go_simp) ⟨by simp [hl], hsz, by rw [iffW_ne (by decide), iffW_ne (by decide)]; exact hT, hK, hF.put 26 57 _ (by rw [hsz]; decide) (by simp) (by simp) (by simp)⟩
    | 27, ho, hn =>
      simp only [List.getElem?_toArray, List.getElem?_cons_zero, List.getElem?_cons_succ, Option.some.injEq] at ho
      subst ho
      refine ⟨rfl, ?_⟩
      have h57 := hF.slot (i := 26) (s := 57) (v := .pointer (some ⟨q, 2, none⟩)) (by simp) (hdep ⟨26, .data⟩ (by simp) rfl)
      exact owp_value (.int .u64 (s.now : Int)) (w' := W) (by clear hdep; go_simp) ⟨by simp [hl], hsz, by rw [iffW_ne (by decide), iffW_ne (by decide)]; exact hT, hK, hF.put 27 58 _ (by rw [hsz]; decide) (by simp) (by simp) (by simp)⟩
    | 28, ho, hn =>
      simp only [List.getElem?_toArray, List.getElem?_cons_zero, List.getElem?_cons_succ, Option.some.injEq] at ho
      subst ho
      refine ⟨rfl, ?_⟩
      have h3 : a.tmps[3]?.getD undef = .pointer (some ⟨ob, 0, none⟩) := hF.base 3 (by simp) rfl
      exact owp_value (.pointer (some ⟨ob, 2, none⟩)) (w' := W) (by clear hdep; go_simp) ⟨by simp [hl], hsz, by rw [iffW_ne (by decide), iffW_ne (by decide)]; exact hT, hK, hF.put 28 59 _ (by rw [hsz]; decide) (by simp) (by simp) (by simp)⟩
    | 29, ho, hn =>
      simp only [List.getElem?_toArray, List.getElem?_cons_zero, List.getElem?_cons_succ, Option.some.injEq] at ho
      subst ho
      refine ⟨rfl, ?_⟩
      have h59 := hF.slot (i := 28) (s := 59) (v := .pointer (some ⟨ob, 2, none⟩)) (by simp) (hdep ⟨28, .data⟩ (by simp) rfl)
      exact owp_value (.int .u64 (at_ : Int)) (w' := W) (by clear hdep; go_simp) ⟨by simp [hl], hsz, by rw [iffW_ne (by decide), iffW_ne (by decide)]; exact hT, hK, hF.put 29 60 _ (by rw [hsz]; decide) (by simp) (by simp) (by simp)⟩
    | 30, ho, hn =>
      simp only [List.getElem?_toArray, List.getElem?_cons_zero, List.getElem?_cons_succ, Option.some.injEq] at ho
      subst ho
      refine ⟨rfl, ?_⟩
      have h58 := hF.slot (i := 27) (s := 58) (v := .int .u64 (s.now : Int)) (by simp) (hdep ⟨27, .data⟩ (by simp) rfl)
      have h60 := hF.slot (i := 29) (s := 60) (v := .int .u64 (at_ : Int)) (by simp) (hdep ⟨29, .data⟩ (by simp) rfl)
      exact owp_value (.int .u64 (a2 : Int)) (w' := W) (by clear hdep; go_simp) ⟨by simp [hl], hsz, by rw [iffW_ne (by decide), iffW_ne (by decide)]; exact hT, hK, hF.put 30 61 _ (by rw [hsz]; decide) (by simp) (by simp) (by simp)⟩
    | 31, ho, hn =>
      simp only [List.getElem?_toArray, List.getElem?_cons_zero, List.getElem?_cons_succ, Option.some.injEq] at ho
      subst ho
      refine ⟨rfl, ?_⟩
      have h50 := hF.slot (i := 19) (s := 50) (v := .pointer (some ⟨q, 0, none⟩)) (by simp) (hdep ⟨19, .data⟩ (by simp) rfl)
      have h51 := hF.slot (i := 20) (s := 51) (v := .agg #[.int .i64 gi, .int .u64 (gk : Int)]) (by simp) (hdep ⟨20, .data⟩ (by simp) rfl)
      have h61 := hF.slot (i := 30) (s := 61) (v := .int .u64 (a2 : Int)) (by simp) (hdep ⟨30, .data⟩ (by simp) rfl)
      rw [getD_no hn] at hT
      have hTs : PL w (fun k => (X k ∨ k = ob) ∨ k = gb) W b p q E hc hs tk (iffW (l.getD 15 false) (s.again gi gk a2) s) s := hT
      obtain ⟨Fx, hpx, _, hturn⟩ := hTs.right
      refine owp_call (fn := 26) (args := #[.pointer (some ⟨q, 0, none⟩), .agg #[.int .i64 gi, .int .u64 (gk : Int)], .int .u64 (a2 : Int)]) (by clear hdep; go_simp) ?_
      refine (dw_again hpx HF.out gi gk a2 ha2).mono ?_
      rintro e w' ⟨rfl, F', hp', he'⟩
      have hh := hturn _ _ _ hp' he'
      exact ⟨_, rfl, by simp [hl], hsz, by rw [iffW_at hn, iffW_ne (show 15 ≠ 31 by decide)]; exact hh.1, fun j hj => (hh.2 j hj).trans (hK j hj), hF.put 31 62 _ (by rw [hsz]; decide) (by simp) (by simp) (by simp)⟩
    | 32, ho, hn =>
      simp only [List.getElem?_toArray, List.getElem?_cons_zero, List.getElem?_cons_succ, Option.some.injEq] at ho
      subst ho
      refine ⟨rfl, ?_⟩
      have h46 := hF.slot (i := 15) (s := 46) (v := .int .i64 (s.againE gi gk a2)) (by simp) (hdep ⟨15, .data⟩ (by simp) rfl)
      have h62 := hF.slot (i := 31) (s := 62) (v := .int .i64 (s.againE gi gk a2)) (by simp) (hdep ⟨31, .data⟩ (by simp) rfl)
      exact owp_value (.bool true) (w' := W) (by clear hdep; go_simp) ⟨by simp [hl], hsz, by rw [iffW_ne (by decide), iffW_ne (by decide)]; exact hT, hK, hF.put 32 63 _ (by rw [hsz]; decide) (by simp) (by simp) (by simp)⟩
    | 33, ho, hn =>
      simp only [List.getElem?_toArray, List.getElem?_cons_zero, List.getElem?_cons_succ, Option.some.injEq] at ho
      subst ho
      refine ⟨rfl, ?_⟩
      have h63 := hF.slot (i := 32) (s := 63) (v := .bool true) (by simp) (hdep ⟨32, .data⟩ (by simp) rfl)
      exact owp_value (.bool true) (w' := W) (by clear hdep; go_simp) ⟨by simp [hl], hsz, by rw [iffW_ne (by decide), iffW_ne (by decide)]; exact hT, hK, hF.put 33 4 _ (by rw [hsz]; decide) (by simp) (by simp) (by simp)⟩
    | i5 + 34, ho, hn => simp at ho
  · intro l a W1 hI hall
    obtain ⟨hl, hsz, hT, hK, hF⟩ := hI
    have hall : ∀ i, i < 34 → l.getD i false = true := hall
    have ha := hF.all (by simp only [List.mem_cons, List.not_mem_nil, or_false]; rintro x (rfl | rfl | rfl | rfl | rfl | rfl | rfl | rfl | rfl | rfl | rfl | rfl | rfl | rfl | rfl | rfl | rfl | rfl | rfl | rfl | rfl | rfl | rfl | rfl | rfl | rfl | rfl | rfl | rfl | rfl | rfl | rfl | rfl | rfl) <;> exact hall _ (by dsimp only; decide)) (by simp) (by rw [hsz]; simp)
    subst ha
    rw [hall 15 (by decide), hall 31 (by decide)] at hT
    have HT2 : Hid (PL w (fun k => (X k ∨ k = ob) ∨ k = gb) W1 b p q E hc hs tk (s.again gi gk a2) (s.again gi gk a2)) := Lib.hid hT
    have HX2 : Hid (∀ j, X j → W1.heap[j]? = W.heap[j]?) := Lib.hid fun j hj => (hK j (.inl (.inl hj))).trans (HX.out j hj)
    clear hF hall hl hsz hT hK HP HO HH HX
    refine hKc _ _ ?_
    simp only [setAll, List.setIfInBounds_toArray, List.set_cons_succ, List.set_cons_zero]
    go_wp2_with fail
    go_ret
    exact ⟨rfl, p, q, E, hc, hs, tk, (s.again gi gk a2), HT2.out.less fun j hj => .inl (.inl hj), Wh.fit_again HF.out hm gi gk ha2, by omega, by omega, HX2.out⟩
end
end Go.Proofs.Ytkmakdhlaenaoaa
