import Derived.Test.YthjghofjdcepmaaGm25
import Derived.Test.YthjghofjdcepmaaGm33
import Derived.Test.YthjghofjdcepmaaGm20
import Derived.Test.YthjghofjdcepmaaGm34
import Derived.WalkKit
import Derived.OwnWalkIn
import Derived.TacticsInMore
import Derived.LoopNIn
import Derived.LoopIn
/- Stage 14: same. -/
namespace Go.Proofs.Ythjghofjdcepmaa
set_option maxRecDepth 100000
open Go.RowKit Go.Shelf
attribute [local go_sem] Oper.semAt_some
section
variable {PG : World → Nat → Gr → (Nat → Prop) → Prop} {g : Nat}
set_option maxHeartbeats 8000000 in
theorem gsame_any (HP : GroP PG g) {w : World} {p q : Nat} {s : Gr} {F G : Nat → Prop} (hF : PG w p s F) (hG : RGA w q s G) (hs : s.Ok) (H X : Nat) (hH : H < 18446744073709551616) (hX : X < 4294967296) : Calls Try.prog 18 #[.pointer (some ⟨p, 0, none⟩), .pointer (some ⟨q, 0, none⟩), .agg #[.int .u64 (H : Int), .int .u32 (X : Int)]] w (ret (.bool true) w) := by
  have eg := HP.eg
  obtain ⟨qn, qx, Gn, Gx, h⟩ := hG
  have hK : ∀ W, Below w.heap.size w W → PG W p s F := fun W hb => HP.foot.keep hF (Kept.of_below hb fun _ => False) fun _ _ q => q
  have HPPL := Lib.hid fun W (hb : Below w.heap.size w W) => HP.places (hK W hb) hs
  have HPLF := Lib.hid fun W (hb : Below w.heap.size w W) => HP.left (hK W hb) hs
  have HPEN := Lib.hid fun W (hb : Below w.heap.size w W) => HP.entries (hK W hb) hs
  have HPMK := Lib.hid fun W (hb : Below w.heap.size w W) => HP.marks (hK W hb) hs
  have HPHA := Lib.hid fun W (hb : Below w.heap.size w W) => has_any HP (hK W hb) hs H X hH
  have HPAL := Lib.hid fun W (hb : Below w.heap.size w W) => HP.all (hK W hb) hs
  have HRLF := Lib.hid fun W (hb : Below w.heap.size w W) => rleft_any (h.step hb) hs
  have HRMK := Lib.hid fun W (hb : Below w.heap.size w W) => rgmarks_any (h.step hb) hs
  have HRHA := Lib.hid fun W (hb : Below w.heap.size w W) => rhas_any (h.step hb) hs H X hH hX
  have HRAL := Lib.hid fun W (hb : Below w.heap.size w W) => rgall_any (h.step hb) hs
  have HFO := Lib.hid (HP.foot.old hF)
  obtain ⟨NN, hNN⟩ : ∃ N, N = s.now.n := ⟨_, rfl⟩
  obtain ⟨NE, hNE⟩ : ∃ N, N = s.all.length := ⟨_, rfl⟩
  obtain ⟨NM, hNM⟩ : ∃ N, N = s.marks := ⟨_, rfl⟩
  obtain ⟨LF, hLF⟩ : ∃ N, N = s.left := ⟨_, rfl⟩
  obtain ⟨hh, hhh⟩ : ∃ N, N = s.has H X := ⟨_, rfl⟩
  rw [← hNN] at HPPL
  rw [← Gr.all_len, ← hNE] at HPEN
  rw [← hNE] at HRAL
  rw [← hNM] at HPMK HRMK
  rw [← hLF] at HPLF HRLF
  rw [← hhh] at HPHA HRHA
  have HNE := Lib.hid hNE
  have hne9 : NE ≤ 524288 := by
    rw [hNE, Gr.all_len]
    unfold Gr.entries
    have h1 := (tent_le hs.now).1
    cases e : s.mv with
    | false =>
      rw [if_neg Bool.false_ne_true]
      omega
    | true =>
      have := (tent_le (hs.next e)).1
      rw [if_pos rfl]
      omega
  have HM0 : Hid (Mem w ((w.alloc (.cells #[.int .u64 (H : Int), .int .u32 (X : Int)] 34)).alloc (.cells #[.bool false] 4)) [(w.heap.size, .cells #[.int .u64 (H : Int), .int .u32 (X : Int)] 34 (0, 0)), (w.heap.size + 1, .cells #[.bool false] 4 (0, 0))]) := Lib.hid (by
    have h := ((Mem.nil w).alloc (.cells #[.int .u64 (H : Int), .int .u32 (X : Int)] 34)).alloc (.cells #[.bool false] 4)
    simpa using h)
  clear hF HP hK
  cases hmv : s.mv with
  | true =>
    have HMV := Lib.hid hmv
    clear hmv
    have hq := h.blk
    rw [HMV.out] at hq
    have HQ : Hid (w.heap[q]? = some (.cells #[.pointer (some ⟨qn, 0, none⟩), .pointer (some ⟨qx, 0, none⟩), .bool true, .int .i64 (s.most : Int), .int .i64 (s.at_ : Int)] 63 (0, 0))) := Lib.hid hq
    have HQL := Lib.hid (lt_heap hq)
    obtain ⟨AE, cE, hE⟩ := tlen_c h.now
    rw [← hNN] at hE
    have HLE := Lib.hid hE
    obtain ⟨AX, cX, hE'⟩ := tlen_c (h.next HMV.out)
    obtain ⟨NX, hNX⟩ : ∃ N, N = s.next.n := ⟨_, rfl⟩
    rw [← hNX] at hE'
    have HLX := Lib.hid hE'
    have hpl : s.places = NX := by unfold Gr.places; rw [HMV.out, if_pos rfl, hNX]
    rw [hpl] at HPPL
    clear hE' hNX hpl
    clear hq hE h hNN hNE hNM hLF hhh hs
    refine (callsIn_wide (n := 13)).1 ?_
    refine callsIn_of_wp_marks Try.func18 rfl trivial ?_ rfl
    refine wpIn_wide.2 ?_
    simp only [Try.ntmps18, List.size_toArray, List.length_cons, List.length_nil, Nat.reduceAdd, Nat.reduceSub, Array.replicate_succ, Array.replicate_zero, List.push_toArray, List.append_toArray, List.nil_append, List.cons_append]
    go_upto_region 1 with fail
    change Code.wp _ _ _ _ ((w.alloc (.cells #[.int .u64 (H : Int), .int .u32 (X : Int)] 34)).alloc (.cells #[.bool false] 4))
    have HM1 := Lib.hid HM0.out
    have HB1 := Lib.hid HM0.out.below
    clear HM0
    generalize (w.alloc (.cells #[.int .u64 (H : Int), .int .u32 (X : Int)] 34)).alloc (.cells #[.bool false] 4) = u1 at *
    obtain ⟨b5, hb5⟩ : ∃ b, b = w.heap.size := ⟨_, rfl⟩
    obtain ⟨b6, hb6⟩ : ∃ b, b = w.heap.size + 1 := ⟨_, rfl⟩
    have HW5 : Hid (b5 = w.heap.size ∧ b6 = w.heap.size + 1) := Lib.hid ⟨hb5, hb6⟩
    rw [← hb6, ← hb5] at HM1
    rw [← hb6, ← hb5]
    clear hb5 hb6
    go_upto_region 3 with (first
      | (go_at_call 19
         refine (HPPL.out u1 HB1.out).mono ?_
         rintro e u2 ⟨rfl, hb⟩
         have HM2 := Lib.hid (HM1.out.step hb)
         have HB2 := Lib.hid (HB1.out.trans (hb.mono HB1.out.size))
         clear hb HM1))
    have x2 : u2.cell? ⟨q, 2, none⟩ = some (.bool true) := blk_cell ((HB2.out.block q HQL.out).trans HQ.out) 2
    have x1 : u2.cell? ⟨q, 1, none⟩ = some (.pointer (some ⟨qx, 0, none⟩)) := blk_cell ((HB2.out.block q HQL.out).trans HQ.out) 1
    have xx : u2.cell? ⟨qx, 2, none⟩ = some (.slice AX NX cX) := HLX.out u2 HB2.out
    go_upto_region 5 with fail
    clear x2 x1 xx
    go_upto_region 6 with (first
      | (go_at_call 49
         refine (HRAL.out u2 HB2.out).mono ?_
         rintro e u3 ⟨A, c, rfl, ho, hb⟩
         have HM3 := Lib.hid (HM2.out.step hb)
         have HB3 := Lib.hid (HB2.out.trans (hb.mono HB2.out.size))
         have HO3 := Lib.hid ho
         have HU3 := Lib.hid hb.size
         clear ho hb HM2))
    have HM4 : Hid (Mem w ((u3.alloc (.cells #[.slice A NE c] 67)).alloc (.cells #[.int .i64 0] 3)) _) := Lib.hid ((HM3.out.alloc (.cells #[.slice A NE c] 67)).alloc (.cells #[.int .i64 0] 3))
    have hb35 : Below u3.heap.size u3 ((u3.alloc (.cells #[.slice A NE c] 67)).alloc (.cells #[.int .i64 0] 3)) := (below_alloc u3 _).alloc (below_alloc u3 _).size _
    have HB5 := Lib.hid (HB3.out.trans (hb35.mono HB3.out.size))
    obtain ⟨b10, hb10⟩ : ∃ b, b = u3.heap.size := ⟨_, rfl⟩
    obtain ⟨b11, hb11⟩ : ∃ b, b = u3.heap.size + 1 := ⟨_, rfl⟩
    have HRD5 : Hid (RdC ((u3.alloc (.cells #[.slice A NE c] 67)).alloc (.cells #[.int .i64 0] 3)) b10 A (NE * 2) (entR s.all)) := Lib.hid (by
      rw [hb10]
      exact HO3.out.rd.keep hb35)
    have HU5 : Hid (b10 ≤ ((u3.alloc (.cells #[.slice A NE c] 67)).alloc (.cells #[.int .i64 0] 3)).heap.size) := Lib.hid (by rw [hb10]; exact hb35.size)
    have H611 : Hid (b11 = b10 + 1 ∧ b6 < b10 ∧ w.heap.size ≤ b10) := Lib.hid ⟨by rw [hb11, hb10], by rw [hb10]; exact lt_heap (HM3.out.get 1 rfl), by rw [hb10]; exact HB3.out.size⟩
    have HX10 : Hid (((u3.alloc (.cells #[.slice A NE c] 67)).alloc (.cells #[.int .i64 0] 3)).heap[b10]? = some (.cells #[.slice A NE c] 67 (0, 0))) := Lib.hid (by rw [hb10]; exact HM4.out.get 2 rfl)
    have HX11 : Hid (((u3.alloc (.cells #[.slice A NE c] 67)).alloc (.cells #[.int .i64 0] 3)).heap[b11]? = some (.cells #[.int .i64 0] 3 (0, 0))) := Lib.hid (by
      have h := HM4.out.get 3 rfl
      rw [hb11]
      simpa using h)
    have HX5 : Hid (((u3.alloc (.cells #[.slice A NE c] 67)).alloc (.cells #[.int .i64 0] 3)).heap[b5]? = some (.cells #[.int .u64 (H : Int), .int .u32 (X : Int)] 34 (0, 0))) := Lib.hid (HM4.out.get 0 rfl)
    have HX6 : Hid (((u3.alloc (.cells #[.slice A NE c] 67)).alloc (.cells #[.int .i64 0] 3)).heap[b6]? = some (.cells #[.bool false] 4 (0, 0))) := Lib.hid (HM4.out.get 1 rfl)
    rw [← hb11, ← hb10]
    clear hb10 hb11 HM4 HM3 HO3 hb35
    generalize (u3.alloc (.cells #[.slice A NE c] 67)).alloc (.cells #[.int .i64 0] 3) = u5 at *
    have HQ5 : Hid (u5.heap[q]? = some (.cells #[.pointer (some ⟨qn, 0, none⟩), .pointer (some ⟨qx, 0, none⟩), .bool true, .int .i64 (s.most : Int), .int .i64 (s.at_ : Int)] 63 (0, 0))) := Lib.hid ((HB5.out.block q HQL.out).trans HQ.out)
    have HQL5 := Lib.hid (lt_heap HQ5.out)
    rename_i Kc hKc
    refine wp_region_invG (fun a0 l a W => l.size = 50 ∧ a0.tmps.size = 103 ∧ Below u5.heap.size u5 W ∧ ∃ (lb : Array Value), (l.getD 47 false = true → True) ∧ FrU a0 (kv ([(0, 32), (1, 33), (2, 34), (3, 35), (4, 36), (5, 37), (6, 38), (7, 39), (8, 40), (9, 41), (10, 42), (11, 43), (12, 44), (13, 45), (14, 46), (15, 47), (16, 48), (17, 49), (18, 50), (19, 51), (20, 52), (21, 53), (22, 54), (23, 55), (24, 56), (25, 57), (26, 58), (27, 59), (28, 60), (29, 61), (30, 62), (31, 63), (32, 64), (33, 65), (34, 66), (35, 67), (36, 68), (37, 69), (38, 70), (39, 71), (40, 72), (41, 73), (42, 74), (43, 75), (44, 76), (45, 77), (46, 78), (47, 79), (48, 80), (49, 81)] : List (Nat × Nat)) (fun i => ([.int .i64 (NN : Int), .pointer (some ⟨q, 0, none⟩), .pointer (some ⟨q, 0, none⟩), .pointer (some ⟨q, 0, none⟩), .pointer (some ⟨qn, 0, none⟩), .pointer (some ⟨qn, 0, none⟩), .pointer (some ⟨qn, 2, none⟩), .slice AE NN cE, .int .i64 (NN : Int), .bool false, .bool false, .int .i64 (NX : Int), .int .i64 (NX : Int), .bool false, .bool false, .bool false, .pointer (some ⟨p, 0, none⟩), .int .i64 (LF : Int), .pointer (some ⟨q, 0, none⟩), .int .i64 (LF : Int), .bool false, .bool false, .bool false, .pointer (some ⟨p, 0, none⟩), .int .i64 (NE : Int), .slice A NE c, .int .i64 (NE : Int), .bool false, .bool false, .bool false, .pointer (some ⟨p, 0, none⟩), .int .i64 (NM : Int), .pointer (some ⟨q, 0, none⟩), .int .i64 (NM : Int), .bool false, .bool false, .bool false, .pointer (some ⟨p, 0, none⟩), .agg #[.int .u64 (H : Int), .int .u32 (X : Int)], .bool hh, .pointer (some ⟨q, 0, none⟩), .agg #[.int .u64 (H : Int), .int .u32 (X : Int)], .bool hh, .bool false, .bool false, .bool false, .pointer (some ⟨p, 0, none⟩), .func (.func g) #[] lb, .bool false, .bool false][i]?).getD undef)) l a) ?_ ?_ ?_ ?_ ?_ ?_
    · kernel_rfl
    · exact fun _ _ _ h => h.1
    · kernel_rfl
    · exact ⟨by simp, rfl, (Below.refl _ _).drew, #[], (fun h => by rw [getD_none] at h; cases h), FrU.start _ _ _⟩
    · intro l a W i5 o hI ho hn hdep
      obtain ⟨hl, hsz, hW, lb, hX79, hF⟩ := hI
      have hx0 : W.cell? ⟨q, 0, none⟩ = some (.pointer (some ⟨qn, 0, none⟩)) := blk_cell ((hW.block q HQL5.out).trans HQ5.out) 0
      have hxn : W.cell? ⟨qn, 2, none⟩ = some (.slice AE NN cE) := HLE.out W (HB5.out.trans (hW.mono HB5.out.size))
      have hxa : W.cell? ⟨b10, 0, none⟩ = some (.slice A NE c) := blk_cell ((hW.block b10 (lt_heap HX10.out)).trans HX10.out) 0
      have hx5 : W.heap[b5]? = some (.cells #[.int .u64 (H : Int), .int .u32 (X : Int)] 34 (0, 0)) := (hW.block b5 (lt_heap HX5.out)).trans HX5.out
      have h99 : ∀ lb (V : World), (binOp .eql 54 (.func (.func g) #[] lb) .nilFunc).run Try.prog V = .ok (.bool false) V := fun _ _ => by kernel_rfl
      have hfb : (hh != hh) = false := by cases hh <;> rfl
      match i5, ho, hn with
      | 0, ho, hn =>
        simp only [List.getElem?_toArray, List.getElem?_cons_zero, Option.some.injEq] at ho
        subst ho
        refine ⟨rfl, ?_⟩
        have h7 : a.tmps[7]?.getD undef = .int .i64 (NN : Int) := hF.baseK 7 rfl rfl
        exact owp_value (.int .i64 (NN : Int)) (w' := W) (by clear hdep; go_simp) ⟨by simp [hl], hsz, hW, lb, (fun h => (hX79 (by rw [getD_set (by decide)] at h; exact h))), hF.putK 0 32 _ (by rw [hsz]; decide) rfl rfl⟩
      | 1, ho, hn =>
        simp only [List.getElem?_toArray, List.getElem?_cons_zero, List.getElem?_cons_succ, Option.some.injEq] at ho
        subst ho
        refine ⟨rfl, ?_⟩
        have h1 : a.tmps[1]?.getD undef = .pointer (some ⟨q, 0, none⟩) := hF.baseK 1 rfl rfl
        exact owp_value (.pointer (some ⟨q, 0, none⟩)) (w' := W) (by clear hdep; go_simp) ⟨by simp [hl], hsz, hW, lb, (fun h => (hX79 (by rw [getD_set (by decide)] at h; exact h))), hF.putK 1 33 _ (by rw [hsz]; decide) rfl rfl⟩
      | 2, ho, hn =>
        simp only [List.getElem?_toArray, List.getElem?_cons_zero, List.getElem?_cons_succ, Option.some.injEq] at ho
        subst ho
        refine ⟨rfl, ?_⟩
        have h33 := hF.slotK (i := 1) (s := 33) (v := .pointer (some ⟨q, 0, none⟩)) rfl (hdep ⟨1, .data⟩ (by simp) rfl) rfl
        exact owp_value (.pointer (some ⟨q, 0, none⟩)) (w' := W) (by clear hdep; go_simp) ⟨by simp [hl], hsz, hW, lb, (fun h => (hX79 (by rw [getD_set (by decide)] at h; exact h))), hF.putK 2 34 _ (by rw [hsz]; decide) rfl rfl⟩
      | 3, ho, hn =>
        simp only [List.getElem?_toArray, List.getElem?_cons_zero, List.getElem?_cons_succ, Option.some.injEq] at ho
        subst ho
        refine ⟨rfl, ?_⟩
        have h34 := hF.slotK (i := 2) (s := 34) (v := .pointer (some ⟨q, 0, none⟩)) rfl (hdep ⟨2, .data⟩ (by simp) rfl) rfl
        exact owp_value (.pointer (some ⟨q, 0, none⟩)) (w' := W) (by clear hdep; go_simp) ⟨by simp [hl], hsz, hW, lb, (fun h => (hX79 (by rw [getD_set (by decide)] at h; exact h))), hF.putK 3 35 _ (by rw [hsz]; decide) rfl rfl⟩
      | 4, ho, hn =>
        simp only [List.getElem?_toArray, List.getElem?_cons_zero, List.getElem?_cons_succ, Option.some.injEq] at ho
        subst ho
        refine ⟨rfl, ?_⟩
        have h35 := hF.slotK (i := 3) (s := 35) (v := .pointer (some ⟨q, 0, none⟩)) rfl (hdep ⟨3, .data⟩ (by simp) rfl) rfl
        exact owp_value (.pointer (some ⟨qn, 0, none⟩)) (w' := W) (by clear hdep; go_simp) ⟨by simp [hl], hsz, hW, lb, (fun h => (hX79 (by rw [getD_set (by decide)] at h; exact h))), hF.putK 4 36 _ (by rw [hsz]; decide) rfl rfl⟩
      | 5, ho, hn =>
        simp only [List.getElem?_toArray, List.getElem?_cons_zero, List.getElem?_cons_succ, Option.some.injEq] at ho
        subst ho
        refine ⟨rfl, ?_⟩
        have h36 := hF.slotK (i := 4) (s := 36) (v := .pointer (some ⟨qn, 0, none⟩)) rfl (hdep ⟨4, .data⟩ (by simp) rfl) rfl
        exact owp_value (.pointer (some ⟨qn, 0, none⟩)) (w' := W) (by clear hdep; go_simp) ⟨by simp [hl], hsz, hW, lb, (fun h => (hX79 (by rw [getD_set (by decide)] at h; exact h))), hF.putK 5 37 _ (by rw [hsz]; decide) rfl rfl⟩
      | 6, ho, hn =>
        simp only [List.getElem?_toArray, List.getElem?_cons_zero, List.getElem?_cons_succ, Option.some.injEq] at ho
        subst ho
        refine ⟨rfl, ?_⟩
        have h37 := hF.slotK (i := 5) (s := 37) (v := .pointer (some ⟨qn, 0, none⟩)) rfl (hdep ⟨5, .data⟩ (by simp) rfl) rfl
        exact owp_value (.pointer (some ⟨qn, 2, none⟩)) (w' := W) (by clear hdep; go_simp) ⟨by simp [hl], hsz, hW, lb, (fun h => (hX79 (by rw [getD_set (by decide)] at h; exact h))), hF.putK 6 38 _ (by rw [hsz]; decide) rfl rfl⟩
      | 7, ho, hn =>
        simp only [List.getElem?_toArray, List.getElem?_cons_zero, List.getElem?_cons_succ, Option.some.injEq] at ho
        subst ho
        refine ⟨rfl, ?_⟩
        have h38 := hF.slotK (i := 6) (s := 38) (v := .pointer (some ⟨qn, 2, none⟩)) rfl (hdep ⟨6, .data⟩ (by simp) rfl) rfl
        exact owp_value (.slice AE NN cE) (w' := W) (by clear hdep; go_simp) ⟨by simp [hl], hsz, hW, lb, (fun h => (hX79 (by rw [getD_set (by decide)] at h; exact h))), hF.putK 7 39 _ (by rw [hsz]; decide) rfl rfl⟩
      | 8, ho, hn =>
        simp only [List.getElem?_toArray, List.getElem?_cons_zero, List.getElem?_cons_succ, Option.some.injEq] at ho
        subst ho
        refine ⟨rfl, ?_⟩
        have h39 := hF.slotK (i := 7) (s := 39) (v := .slice AE NN cE) rfl (hdep ⟨7, .data⟩ (by simp) rfl) rfl
        exact owp_value (.int .i64 (NN : Int)) (w' := W) (by clear hdep; go_simp) ⟨by simp [hl], hsz, hW, lb, (fun h => (hX79 (by rw [getD_set (by decide)] at h; exact h))), hF.putK 8 40 _ (by rw [hsz]; decide) rfl rfl⟩
      | 9, ho, hn =>
        simp only [List.getElem?_toArray, List.getElem?_cons_zero, List.getElem?_cons_succ, Option.some.injEq] at ho
        subst ho
        refine ⟨rfl, ?_⟩
        have h32 := hF.slotK (i := 0) (s := 32) (v := .int .i64 (NN : Int)) rfl (hdep ⟨0, .data⟩ (by simp) rfl) rfl
        have h40 := hF.slotK (i := 8) (s := 40) (v := .int .i64 (NN : Int)) rfl (hdep ⟨8, .data⟩ (by simp) rfl) rfl
        exact owp_value (.bool false) (w' := W) (by clear hdep; go_simp) ⟨by simp [hl], hsz, hW, lb, (fun h => (hX79 (by rw [getD_set (by decide)] at h; exact h))), hF.putK 9 41 _ (by rw [hsz]; decide) rfl rfl⟩
      | 10, ho, hn =>
        simp only [List.getElem?_toArray, List.getElem?_cons_zero, List.getElem?_cons_succ, Option.some.injEq] at ho
        subst ho
        refine ⟨rfl, ?_⟩
        have h41 := hF.slotK (i := 9) (s := 41) (v := .bool false) rfl (hdep ⟨9, .data⟩ (by simp) rfl) rfl
        exact owp_value (.bool false) (w' := W) (by clear hdep; go_simp) ⟨by simp [hl], hsz, hW, lb, (fun h => (hX79 (by rw [getD_set (by decide)] at h; exact h))), hF.putK 10 42 _ (by rw [hsz]; decide) rfl rfl⟩
      | 11, ho, hn =>
        simp only [List.getElem?_toArray, List.getElem?_cons_zero, List.getElem?_cons_succ, Option.some.injEq] at ho
        subst ho
        refine ⟨wanted_of (j := 10) (s := 42) (b := false) rfl rfl rfl (hF.slotK (i := 10) (s := 42) (v := .bool false) rfl (hdep ⟨10, .guard⟩ (by simp) rfl) rfl), ?_⟩
        have h8 : a.tmps[8]?.getD undef = .int .i64 (NX : Int) := hF.baseK 8 rfl rfl
        exact owp_value (.int .i64 (NX : Int)) (w' := W) (by clear hdep; go_simp) ⟨by simp [hl], hsz, hW, lb, (fun h => (hX79 (by rw [getD_set (by decide)] at h; exact h))), hF.putK 11 43 _ (by rw [hsz]; decide) rfl rfl⟩
      | 12, ho, hn =>
        simp only [List.getElem?_toArray, List.getElem?_cons_zero, List.getElem?_cons_succ, Option.some.injEq] at ho
        subst ho
        refine ⟨wanted_of (j := 10) (s := 42) (b := false) rfl rfl rfl (hF.slotK (i := 10) (s := 42) (v := .bool false) rfl (hdep ⟨10, .guard⟩ (by simp) rfl) rfl), ?_⟩
        have h9 : a.tmps[9]?.getD undef = .int .i64 (NX : Int) := hF.baseK 9 rfl rfl
        exact owp_value (.int .i64 (NX : Int)) (w' := W) (by clear hdep; go_simp) ⟨by simp [hl], hsz, hW, lb, (fun h => (hX79 (by rw [getD_set (by decide)] at h; exact h))), hF.putK 12 44 _ (by rw [hsz]; decide) rfl rfl⟩
      | 13, ho, hn =>
        simp only [List.getElem?_toArray, List.getElem?_cons_zero, List.getElem?_cons_succ, Option.some.injEq] at ho
        subst ho
        refine ⟨wanted_of (j := 10) (s := 42) (b := false) rfl rfl rfl (hF.slotK (i := 10) (s := 42) (v := .bool false) rfl (hdep ⟨10, .guard⟩ (by simp) rfl) rfl), ?_⟩
        have h43 := hF.slotK (i := 11) (s := 43) (v := .int .i64 (NX : Int)) rfl (hdep ⟨11, .data⟩ (by simp) rfl) rfl
        have h44 := hF.slotK (i := 12) (s := 44) (v := .int .i64 (NX : Int)) rfl (hdep ⟨12, .data⟩ (by simp) rfl) rfl
        exact owp_value (.bool false) (w' := W) (by clear hdep; go_simp) ⟨by simp [hl], hsz, hW, lb, (fun h => (hX79 (by rw [getD_set (by decide)] at h; exact h))), hF.putK 13 45 _ (by rw [hsz]; decide) rfl rfl⟩
      | 14, ho, hn =>
        simp only [List.getElem?_toArray, List.getElem?_cons_zero, List.getElem?_cons_succ, Option.some.injEq] at ho
        subst ho
        refine ⟨rfl, ?_⟩
        have h42 := hF.slotK (i := 10) (s := 42) (v := .bool false) rfl (hdep ⟨10, .data⟩ (by simp) rfl) rfl
        have h45 := hF.slotK (i := 13) (s := 45) (v := .bool false) rfl (hdep ⟨13, .data⟩ (by simp) rfl) rfl
        exact owp_value (.bool false) (w' := W) (by clear hdep; go_simp) ⟨by simp [hl], hsz, hW, lb, (fun h => (hX79 (by rw [getD_set (by decide)] at h; exact h))), hF.putK 14 46 _ (by rw [hsz]; decide) rfl rfl⟩
      | 15, ho, hn =>
        simp only [List.getElem?_toArray, List.getElem?_cons_zero, List.getElem?_cons_succ, Option.some.injEq] at ho
        subst ho
        refine ⟨rfl, ?_⟩
        have h46 := hF.slotK (i := 14) (s := 46) (v := .bool false) rfl (hdep ⟨14, .data⟩ (by simp) rfl) rfl
        exact owp_value (.bool false) (w' := W) (by clear hdep; go_simp) ⟨by simp [hl], hsz, hW, lb, (fun h => (hX79 (by rw [getD_set (by decide)] at h; exact h))), hF.putK 15 47 _ (by rw [hsz]; decide) rfl rfl⟩
      | 16, ho, hn =>
        simp only [List.getElem?_toArray, List.getElem?_cons_zero, List.getElem?_cons_succ, Option.some.injEq] at ho
        subst ho
        refine ⟨wanted_of (j := 15) (s := 47) (b := false) rfl rfl rfl (hF.slotK (i := 15) (s := 47) (v := .bool false) rfl (hdep ⟨15, .guard⟩ (by simp) rfl) rfl), ?_⟩
        have h0 : a.tmps[0]?.getD undef = .pointer (some ⟨p, 0, none⟩) := hF.baseK 0 rfl rfl
        exact owp_value (.pointer (some ⟨p, 0, none⟩)) (w' := W) (by clear hdep; go_simp) ⟨by simp [hl], hsz, hW, lb, (fun h => (hX79 (by rw [getD_set (by decide)] at h; exact h))), hF.putK 16 48 _ (by rw [hsz]; decide) rfl rfl⟩
      | 17, ho, hn =>
        simp only [List.getElem?_toArray, List.getElem?_cons_zero, List.getElem?_cons_succ, Option.some.injEq] at ho
        subst ho
        refine ⟨wanted_of (j := 15) (s := 47) (b := false) rfl rfl rfl (hF.slotK (i := 15) (s := 47) (v := .bool false) rfl (hdep ⟨15, .guard⟩ (by simp) rfl) rfl), ?_⟩
        have h48 := hF.slotK (i := 16) (s := 48) (v := .pointer (some ⟨p, 0, none⟩)) rfl (hdep ⟨16, .data⟩ (by simp) rfl) rfl
        refine owp_call (fn := 22) (args := #[.pointer (some ⟨p, 0, none⟩)]) (by clear hdep; go_simp) ?_
        refine (HPLF.out W (HB5.out.trans (hW.mono HB5.out.size))).mono ?_
        rintro e w' ⟨rfl, hb⟩
        exact ⟨_, rfl, by simp [hl], hsz, hW.trans (hb.mono hW.size), lb, (fun h => True.intro), hF.putK 17 49 _ (by rw [hsz]; decide) rfl rfl⟩
      | 18, ho, hn =>
        simp only [List.getElem?_toArray, List.getElem?_cons_zero, List.getElem?_cons_succ, Option.some.injEq] at ho
        subst ho
        refine ⟨wanted_of (j := 15) (s := 47) (b := false) rfl rfl rfl (hF.slotK (i := 15) (s := 47) (v := .bool false) rfl (hdep ⟨15, .guard⟩ (by simp) rfl) rfl), ?_⟩
        have h1 : a.tmps[1]?.getD undef = .pointer (some ⟨q, 0, none⟩) := hF.baseK 1 rfl rfl
        exact owp_value (.pointer (some ⟨q, 0, none⟩)) (w' := W) (by clear hdep; go_simp) ⟨by simp [hl], hsz, hW, lb, (fun h => (hX79 (by rw [getD_set (by decide)] at h; exact h))), hF.putK 18 50 _ (by rw [hsz]; decide) rfl rfl⟩
      | 19, ho, hn =>
        simp only [List.getElem?_toArray, List.getElem?_cons_zero, List.getElem?_cons_succ, Option.some.injEq] at ho
        subst ho
        refine ⟨wanted_of (j := 15) (s := 47) (b := false) rfl rfl rfl (hF.slotK (i := 15) (s := 47) (v := .bool false) rfl (hdep ⟨15, .guard⟩ (by simp) rfl) rfl), ?_⟩
        have h50 := hF.slotK (i := 18) (s := 50) (v := .pointer (some ⟨q, 0, none⟩)) rfl (hdep ⟨18, .data⟩ (by simp) rfl) rfl
        refine owp_call (fn := 50) (args := #[.pointer (some ⟨q, 0, none⟩)]) (by clear hdep; go_simp) ?_
        refine (HRLF.out W (HB5.out.trans (hW.mono HB5.out.size))).mono ?_
        rintro e w' ⟨rfl, hb⟩
        exact ⟨_, rfl, by simp [hl], hsz, hW.trans (hb.mono hW.size), lb, (fun h => True.intro), hF.putK 19 51 _ (by rw [hsz]; decide) rfl rfl⟩
      | 20, ho, hn =>
        simp only [List.getElem?_toArray, List.getElem?_cons_zero, List.getElem?_cons_succ, Option.some.injEq] at ho
        subst ho
        refine ⟨wanted_of (j := 15) (s := 47) (b := false) rfl rfl rfl (hF.slotK (i := 15) (s := 47) (v := .bool false) rfl (hdep ⟨15, .guard⟩ (by simp) rfl) rfl), ?_⟩
        have h49 := hF.slotK (i := 17) (s := 49) (v := .int .i64 (LF : Int)) rfl (hdep ⟨17, .data⟩ (by simp) rfl) rfl
        have h51 := hF.slotK (i := 19) (s := 51) (v := .int .i64 (LF : Int)) rfl (hdep ⟨19, .data⟩ (by simp) rfl) rfl
        exact owp_value (.bool false) (w' := W) (by clear hdep; go_simp) ⟨by simp [hl], hsz, hW, lb, (fun h => (hX79 (by rw [getD_set (by decide)] at h; exact h))), hF.putK 20 52 _ (by rw [hsz]; decide) rfl rfl⟩
      | 21, ho, hn =>
        simp only [List.getElem?_toArray, List.getElem?_cons_zero, List.getElem?_cons_succ, Option.some.injEq] at ho
        subst ho
        refine ⟨rfl, ?_⟩
        have h47 := hF.slotK (i := 15) (s := 47) (v := .bool false) rfl (hdep ⟨15, .data⟩ (by simp) rfl) rfl
        have h52 := hF.slotK (i := 20) (s := 52) (v := .bool false) rfl (hdep ⟨20, .data⟩ (by simp) rfl) rfl
        exact owp_value (.bool false) (w' := W) (by clear hdep; go_simp) ⟨by simp [hl], hsz, hW, lb, (fun h => (hX79 (by rw [getD_set (by decide)] at h; exact h))), hF.putK 21 53 _ (by rw [hsz]; decide) rfl rfl⟩
      | 22, ho, hn =>
        simp only [List.getElem?_toArray, List.getElem?_cons_zero, List.getElem?_cons_succ, Option.some.injEq] at ho
        subst ho
        refine ⟨rfl, ?_⟩
        have h53 := hF.slotK (i := 21) (s := 53) (v := .bool false) rfl (hdep ⟨21, .data⟩ (by simp) rfl) rfl
        exact owp_value (.bool false) (w' := W) (by clear hdep; go_simp) ⟨by simp [hl], hsz, hW, lb, (fun h => (hX79 (by rw [getD_set (by decide)] at h; exact h))), hF.putK 22 54 _ (by rw [hsz]; decide) rfl rfl⟩
      | 23, ho, hn =>
        simp only [List.getElem?_toArray, List.getElem?_cons_zero, List.getElem?_cons_succ, Option.some.injEq] at ho
        subst ho
        refine ⟨wanted_of (j := 22) (s := 54) (b := false) rfl rfl rfl (hF.slotK (i := 22) (s := 54) (v := .bool false) rfl (hdep ⟨22, .guard⟩ (by simp) rfl) rfl), ?_⟩
        have h0 : a.tmps[0]?.getD undef = .pointer (some ⟨p, 0, none⟩) := hF.baseK 0 rfl rfl
        exact owp_value (.pointer (some ⟨p, 0, none⟩)) (w' := W) (by clear hdep; go_simp) ⟨by simp [hl], hsz, hW, lb, (fun h => (hX79 (by rw [getD_set (by decide)] at h; exact h))), hF.putK 23 55 _ (by rw [hsz]; decide) rfl rfl⟩
      | 24, ho, hn =>
        simp only [List.getElem?_toArray, List.getElem?_cons_zero, List.getElem?_cons_succ, Option.some.injEq] at ho
        subst ho
        refine ⟨wanted_of (j := 22) (s := 54) (b := false) rfl rfl rfl (hF.slotK (i := 22) (s := 54) (v := .bool false) rfl (hdep ⟨22, .guard⟩ (by simp) rfl) rfl), ?_⟩
        have h55 := hF.slotK (i := 23) (s := 55) (v := .pointer (some ⟨p, 0, none⟩)) rfl (hdep ⟨23, .data⟩ (by simp) rfl) rfl
        refine owp_call (fn := 21) (args := #[.pointer (some ⟨p, 0, none⟩)]) (by clear hdep; go_simp) ?_
        refine (HPEN.out W (HB5.out.trans (hW.mono HB5.out.size))).mono ?_
        rintro e w' ⟨rfl, hb⟩
        exact ⟨_, rfl, by simp [hl], hsz, hW.trans (hb.mono hW.size), lb, (fun h => True.intro), hF.putK 24 56 _ (by rw [hsz]; decide) rfl rfl⟩
      | 25, ho, hn =>
        simp only [List.getElem?_toArray, List.getElem?_cons_zero, List.getElem?_cons_succ, Option.some.injEq] at ho
        subst ho
        refine ⟨wanted_of (j := 22) (s := 54) (b := false) rfl rfl rfl (hF.slotK (i := 22) (s := 54) (v := .bool false) rfl (hdep ⟨22, .guard⟩ (by simp) rfl) rfl), ?_⟩
        have h10 : a.tmps[10]?.getD undef = .pointer (some ⟨b10, 0, none⟩) := hF.baseK 10 rfl rfl
        exact owp_value (.slice A NE c) (w' := W) (by clear hdep; go_simp) ⟨by simp [hl], hsz, hW, lb, (fun h => (hX79 (by rw [getD_set (by decide)] at h; exact h))), hF.putK 25 57 _ (by rw [hsz]; decide) rfl rfl⟩
      | 26, ho, hn =>
        simp only [List.getElem?_toArray, List.getElem?_cons_zero, List.getElem?_cons_succ, Option.some.injEq] at ho
        subst ho
        refine ⟨wanted_of (j := 22) (s := 54) (b := false) rfl rfl rfl (hF.slotK (i := 22) (s := 54) (v := .bool false) rfl (hdep ⟨22, .guard⟩ (by simp) rfl) rfl), ?_⟩
        have h57 := hF.slotK (i := 25) (s := 57) (v := .slice A NE c) rfl (hdep ⟨25, .data⟩ (by simp) rfl) rfl
        exact owp_value (.int .i64 (NE : Int)) (w' := W) (by clear hdep; go_simp) ⟨by simp [hl], hsz, hW, lb, (fun h => (hX79 (by rw [getD_set (by decide)] at h; exact h))), hF.putK 26 58 _ (by rw [hsz]; decide) rfl rfl⟩
      | 27, ho, hn =>
        simp only [List.getElem?_toArray, List.getElem?_cons_zero, List.getElem?_cons_succ, Option.some.injEq] at ho
        subst ho
        refine ⟨wanted_of (j := 22) (s := 54) (b := false) rfl rfl rfl (hF.slotK (i := 22) (s := 54) (v := .bool false) rfl (hdep ⟨22, .guard⟩ (by simp) rfl) rfl), ?_⟩
        have h56 := hF.slotK (i := 24) (s := 56) (v := .int .i64 (NE : Int)) rfl (hdep ⟨24, .data⟩ (by simp) rfl) rfl
        have h58 := hF.slotK (i := 26) (s := 58) (v := .int .i64 (NE : Int)) rfl (hdep ⟨26, .data⟩ (by simp) rfl) rfl
        exact owp_value (.bool false) (w' := W) (by clear hdep; go_simp) ⟨by simp [hl], hsz, hW, lb, (fun h => (hX79 (by rw [getD_set (by decide)] at h; exact h))), hF.putK 27 59 _ (by rw [hsz]; decide) rfl rfl⟩
      | 28, ho, hn =>
        simp only [List.getElem?_toArray, List.getElem?_cons_zero, List.getElem?_cons_succ, Option.some.injEq] at ho
        subst ho
        refine ⟨rfl, ?_⟩
        have h54 := hF.slotK (i := 22) (s := 54) (v := .bool false) rfl (hdep ⟨22, .data⟩ (by simp) rfl) rfl
        have h59 := hF.slotK (i := 27) (s := 59) (v := .bool false) rfl (hdep ⟨27, .data⟩ (by simp) rfl) rfl
        exact owp_value (.bool false) (w' := W) (by clear hdep; go_simp) ⟨by simp [hl], hsz, hW, lb, (fun h => (hX79 (by rw [getD_set (by decide)] at h; exact h))), hF.putK 28 60 _ (by rw [hsz]; decide) rfl rfl⟩
      | 29, ho, hn =>
        simp only [List.getElem?_toArray, List.getElem?_cons_zero, List.getElem?_cons_succ, Option.some.injEq] at ho
        subst ho
        refine ⟨rfl, ?_⟩
        have h60 := hF.slotK (i := 28) (s := 60) (v := .bool false) rfl (hdep ⟨28, .data⟩ (by simp) rfl) rfl
        exact owp_value (.bool false) (w' := W) (by clear hdep; go_simp) ⟨by simp [hl], hsz, hW, lb, (fun h => (hX79 (by rw [getD_set (by decide)] at h; exact h))), hF.putK 29 61 _ (by rw [hsz]; decide) rfl rfl⟩
      | 30, ho, hn =>
        simp only [List.getElem?_toArray, List.getElem?_cons_zero, List.getElem?_cons_succ, Option.some.injEq] at ho
        subst ho
        refine ⟨wanted_of (j := 29) (s := 61) (b := false) rfl rfl rfl (hF.slotK (i := 29) (s := 61) (v := .bool false) rfl (hdep ⟨29, .guard⟩ (by simp) rfl) rfl), ?_⟩
        have h0 : a.tmps[0]?.getD undef = .pointer (some ⟨p, 0, none⟩) := hF.baseK 0 rfl rfl
        exact owp_value (.pointer (some ⟨p, 0, none⟩)) (w' := W) (by clear hdep; go_simp) ⟨by simp [hl], hsz, hW, lb, (fun h => (hX79 (by rw [getD_set (by decide)] at h; exact h))), hF.putK 30 62 _ (by rw [hsz]; decide) rfl rfl⟩
      | 31, ho, hn =>
        simp only [List.getElem?_toArray, List.getElem?_cons_zero, List.getElem?_cons_succ, Option.some.injEq] at ho
        subst ho
        refine ⟨wanted_of (j := 29) (s := 61) (b := false) rfl rfl rfl (hF.slotK (i := 29) (s := 61) (v := .bool false) rfl (hdep ⟨29, .guard⟩ (by simp) rfl) rfl), ?_⟩
        have h62 := hF.slotK (i := 30) (s := 62) (v := .pointer (some ⟨p, 0, none⟩)) rfl (hdep ⟨30, .data⟩ (by simp) rfl) rfl
        refine owp_call (fn := 23) (args := #[.pointer (some ⟨p, 0, none⟩)]) (by clear hdep; go_simp) ?_
        refine (HPMK.out W (HB5.out.trans (hW.mono HB5.out.size))).mono ?_
        rintro e w' ⟨rfl, hb⟩
        exact ⟨_, rfl, by simp [hl], hsz, hW.trans (hb.mono hW.size), lb, (fun h => True.intro), hF.putK 31 63 _ (by rw [hsz]; decide) rfl rfl⟩
      | 32, ho, hn =>
        simp only [List.getElem?_toArray, List.getElem?_cons_zero, List.getElem?_cons_succ, Option.some.injEq] at ho
        subst ho
        refine ⟨wanted_of (j := 29) (s := 61) (b := false) rfl rfl rfl (hF.slotK (i := 29) (s := 61) (v := .bool false) rfl (hdep ⟨29, .guard⟩ (by simp) rfl) rfl), ?_⟩
        have h1 : a.tmps[1]?.getD undef = .pointer (some ⟨q, 0, none⟩) := hF.baseK 1 rfl rfl
        exact owp_value (.pointer (some ⟨q, 0, none⟩)) (w' := W) (by clear hdep; go_simp) ⟨by simp [hl], hsz, hW, lb, (fun h => (hX79 (by rw [getD_set (by decide)] at h; exact h))), hF.putK 32 64 _ (by rw [hsz]; decide) rfl rfl⟩
      | 33, ho, hn =>
        simp only [List.getElem?_toArray, List.getElem?_cons_zero, List.getElem?_cons_succ, Option.some.injEq] at ho
        subst ho
        refine ⟨wanted_of (j := 29) (s := 61) (b := false) rfl rfl rfl (hF.slotK (i := 29) (s := 61) (v := .bool false) rfl (hdep ⟨29, .guard⟩ (by simp) rfl) rfl), ?_⟩
        have h64 := hF.slotK (i := 32) (s := 64) (v := .pointer (some ⟨q, 0, none⟩)) rfl (hdep ⟨32, .data⟩ (by simp) rfl) rfl
        refine owp_call (fn := 51) (args := #[.pointer (some ⟨q, 0, none⟩)]) (by clear hdep; go_simp) ?_
        refine (HRMK.out W (HB5.out.trans (hW.mono HB5.out.size))).mono ?_
        rintro e w' ⟨rfl, hb⟩
        exact ⟨_, rfl, by simp [hl], hsz, hW.trans (hb.mono hW.size), lb, (fun h => True.intro), hF.putK 33 65 _ (by rw [hsz]; decide) rfl rfl⟩
      | 34, ho, hn =>
        simp only [List.getElem?_toArray, List.getElem?_cons_zero, List.getElem?_cons_succ, Option.some.injEq] at ho
        subst ho
        refine ⟨wanted_of (j := 29) (s := 61) (b := false) rfl rfl rfl (hF.slotK (i := 29) (s := 61) (v := .bool false) rfl (hdep ⟨29, .guard⟩ (by simp) rfl) rfl), ?_⟩
        have h63 := hF.slotK (i := 31) (s := 63) (v := .int .i64 (NM : Int)) rfl (hdep ⟨31, .data⟩ (by simp) rfl) rfl
        have h65 := hF.slotK (i := 33) (s := 65) (v := .int .i64 (NM : Int)) rfl (hdep ⟨33, .data⟩ (by simp) rfl) rfl
        exact owp_value (.bool false) (w' := W) (by clear hdep; go_simp) ⟨by simp [hl], hsz, hW, lb, (fun h => (hX79 (by rw [getD_set (by decide)] at h; exact h))), hF.putK 34 66 _ (by rw [hsz]; decide) rfl rfl⟩
      | 35, ho, hn =>
        simp only [List.getElem?_toArray, List.getElem?_cons_zero, List.getElem?_cons_succ, Option.some.injEq] at ho
        subst ho
        refine ⟨rfl, ?_⟩
        have h61 := hF.slotK (i := 29) (s := 61) (v := .bool false) rfl (hdep ⟨29, .data⟩ (by simp) rfl) rfl
        have h66 := hF.slotK (i := 34) (s := 66) (v := .bool false) rfl (hdep ⟨34, .data⟩ (by simp) rfl) rfl
        exact owp_value (.bool false) (w' := W) (by clear hdep; go_simp) ⟨by simp [hl], hsz, hW, lb, (fun h => (hX79 (by rw [getD_set (by decide)] at h; exact h))), hF.putK 35 67 _ (by rw [hsz]; decide) rfl rfl⟩
      | 36, ho, hn =>
        simp only [List.getElem?_toArray, List.getElem?_cons_zero, List.getElem?_cons_succ, Option.some.injEq] at ho
        subst ho
        refine ⟨rfl, ?_⟩
        have h67 := hF.slotK (i := 35) (s := 67) (v := .bool false) rfl (hdep ⟨35, .data⟩ (by simp) rfl) rfl
        exact owp_value (.bool false) (w' := W) (by clear hdep; go_simp) ⟨by simp [hl], hsz, hW, lb, (fun h => (hX79 (by rw [getD_set (by decide)] at h; exact h))), hF.putK 36 68 _ (by rw [hsz]; decide) rfl rfl⟩
      | 37, ho, hn =>
        simp only [List.getElem?_toArray, List.getElem?_cons_zero, List.getElem?_cons_succ, Option.some.injEq] at ho
        subst ho
        refine ⟨wanted_of (j := 36) (s := 68) (b := false) rfl rfl rfl (hF.slotK (i := 36) (s := 68) (v := .bool false) rfl (hdep ⟨36, .guard⟩ (by simp) rfl) rfl), ?_⟩
        have h0 : a.tmps[0]?.getD undef = .pointer (some ⟨p, 0, none⟩) := hF.baseK 0 rfl rfl
        exact owp_value (.pointer (some ⟨p, 0, none⟩)) (w' := W) (by clear hdep; go_simp) ⟨by simp [hl], hsz, hW, lb, (fun h => (hX79 (by rw [getD_set (by decide)] at h; exact h))), hF.putK 37 69 _ (by rw [hsz]; decide) rfl rfl⟩
      | 38, ho, hn =>
        simp only [List.getElem?_toArray, List.getElem?_cons_zero, List.getElem?_cons_succ, Option.some.injEq] at ho
        subst ho
        refine ⟨wanted_of (j := 36) (s := 68) (b := false) rfl rfl rfl (hF.slotK (i := 36) (s := 68) (v := .bool false) rfl (hdep ⟨36, .guard⟩ (by simp) rfl) rfl), ?_⟩
        have h5 : a.tmps[5]?.getD undef = .pointer (some ⟨b5, 0, none⟩) := hF.baseK 5 rfl rfl
        have hld := run_loadVar_row W b5 34 34 #[.int .u64 (H : Int), .int .u32 (X : Int)] (0, 0) _ hx5 Try.underlying34 rfl (by kernel_rfl)
        refine owp_value (.agg #[.int .u64 (H : Int), .int .u32 (X : Int)]) (w' := W) ?_ ⟨by simp [hl], hsz, hW, lb, (fun h => (hX79 (by rw [getD_set (by decide)] at h; exact h))), hF.putK 38 70 _ (by rw [hsz]; decide) rfl rfl⟩
        clear hdep
        simp only [execOp, Act.eval, Array.getD_eq_getD_getElem?, h5, Instr.loadAt, Instr.sureAddr, Sem.run_bind, Sem.run_pure, Result.andThen_ok, hld]
        all_goals rfl
      | 39, ho, hn =>
        simp only [List.getElem?_toArray, List.getElem?_cons_zero, List.getElem?_cons_succ, Option.some.injEq] at ho
        subst ho
        refine ⟨wanted_of (j := 36) (s := 68) (b := false) rfl rfl rfl (hF.slotK (i := 36) (s := 68) (v := .bool false) rfl (hdep ⟨36, .guard⟩ (by simp) rfl) rfl), ?_⟩
        have h69 := hF.slotK (i := 37) (s := 69) (v := .pointer (some ⟨p, 0, none⟩)) rfl (hdep ⟨37, .data⟩ (by simp) rfl) rfl
        have h70 := hF.slotK (i := 38) (s := 70) (v := .agg #[.int .u64 (H : Int), .int .u32 (X : Int)]) rfl (hdep ⟨38, .data⟩ (by simp) rfl) rfl
        refine owp_call (fn := 20) (args := #[.pointer (some ⟨p, 0, none⟩), .agg #[.int .u64 (H : Int), .int .u32 (X : Int)]]) (by clear hdep; go_simp) ?_
        refine (HPHA.out W (HB5.out.trans (hW.mono HB5.out.size))).mono ?_
        rintro e w' ⟨rfl, hb⟩
        exact ⟨_, rfl, by simp [hl], hsz, hW.trans (hb.mono hW.size), lb, (fun h => True.intro), hF.putK 39 71 _ (by rw [hsz]; decide) rfl rfl⟩
      | 40, ho, hn =>
        simp only [List.getElem?_toArray, List.getElem?_cons_zero, List.getElem?_cons_succ, Option.some.injEq] at ho
        subst ho
        refine ⟨wanted_of (j := 36) (s := 68) (b := false) rfl rfl rfl (hF.slotK (i := 36) (s := 68) (v := .bool false) rfl (hdep ⟨36, .guard⟩ (by simp) rfl) rfl), ?_⟩
        have h1 : a.tmps[1]?.getD undef = .pointer (some ⟨q, 0, none⟩) := hF.baseK 1 rfl rfl
        exact owp_value (.pointer (some ⟨q, 0, none⟩)) (w' := W) (by clear hdep; go_simp) ⟨by simp [hl], hsz, hW, lb, (fun h => (hX79 (by rw [getD_set (by decide)] at h; exact h))), hF.putK 40 72 _ (by rw [hsz]; decide) rfl rfl⟩
      | 41, ho, hn =>
        simp only [List.getElem?_toArray, List.getElem?_cons_zero, List.getElem?_cons_succ, Option.some.injEq] at ho
        subst ho
        refine ⟨wanted_of (j := 36) (s := 68) (b := false) rfl rfl rfl (hF.slotK (i := 36) (s := 68) (v := .bool false) rfl (hdep ⟨36, .guard⟩ (by simp) rfl) rfl), ?_⟩
        have h5 : a.tmps[5]?.getD undef = .pointer (some ⟨b5, 0, none⟩) := hF.baseK 5 rfl rfl
        have hld := run_loadVar_row W b5 34 34 #[.int .u64 (H : Int), .int .u32 (X : Int)] (0, 0) _ hx5 Try.underlying34 rfl (by kernel_rfl)
        refine owp_value (.agg #[.int .u64 (H : Int), .int .u32 (X : Int)]) (w' := W) ?_ ⟨by simp [hl], hsz, hW, lb, (fun h => (hX79 (by rw [getD_set (by decide)] at h; exact h))), hF.putK 41 73 _ (by rw [hsz]; decide) rfl rfl⟩
        clear hdep
        simp only [execOp, Act.eval, Array.getD_eq_getD_getElem?, h5, Instr.loadAt, Instr.sureAddr, Sem.run_bind, Sem.run_pure, Result.andThen_ok, hld]
        all_goals rfl
      | 42, ho, hn =>
        simp only [List.getElem?_toArray, List.getElem?_cons_zero, List.getElem?_cons_succ, Option.some.injEq] at ho
        subst ho
        refine ⟨wanted_of (j := 36) (s := 68) (b := false) rfl rfl rfl (hF.slotK (i := 36) (s := 68) (v := .bool false) rfl (hdep ⟨36, .guard⟩ (by simp) rfl) rfl), ?_⟩
        have h72 := hF.slotK (i := 40) (s := 72) (v := .pointer (some ⟨q, 0, none⟩)) rfl (hdep ⟨40, .data⟩ (by simp) rfl) rfl
        have h73 := hF.slotK (i := 41) (s := 73) (v := .agg #[.int .u64 (H : Int), .int .u32 (X : Int)]) rfl (hdep ⟨41, .data⟩ (by simp) rfl) rfl
        refine owp_call (fn := 52) (args := #[.pointer (some ⟨q, 0, none⟩), .agg #[.int .u64 (H : Int), .int .u32 (X : Int)]]) (by clear hdep; go_simp) ?_
        refine (HRHA.out W (HB5.out.trans (hW.mono HB5.out.size))).mono ?_
        rintro e w' ⟨rfl, hb⟩
        exact ⟨_, rfl, by simp [hl], hsz, hW.trans (hb.mono hW.size), lb, (fun h => True.intro), hF.putK 42 74 _ (by rw [hsz]; decide) rfl rfl⟩
      | 43, ho, hn =>
        simp only [List.getElem?_toArray, List.getElem?_cons_zero, List.getElem?_cons_succ, Option.some.injEq] at ho
        subst ho
        refine ⟨wanted_of (j := 36) (s := 68) (b := false) rfl rfl rfl (hF.slotK (i := 36) (s := 68) (v := .bool false) rfl (hdep ⟨36, .guard⟩ (by simp) rfl) rfl), ?_⟩
        have h71 := hF.slotK (i := 39) (s := 71) (v := .bool hh) rfl (hdep ⟨39, .data⟩ (by simp) rfl) rfl
        have h74 := hF.slotK (i := 42) (s := 74) (v := .bool hh) rfl (hdep ⟨42, .data⟩ (by simp) rfl) rfl
        exact owp_value (.bool false) (w' := W) (by clear hdep; go_simp) ⟨by simp [hl], hsz, hW, lb, (fun h => (hX79 (by rw [getD_set (by decide)] at h; exact h))), hF.putK 43 75 _ (by rw [hsz]; decide) rfl rfl⟩
      | 44, ho, hn =>
        simp only [List.getElem?_toArray, List.getElem?_cons_zero, List.getElem?_cons_succ, Option.some.injEq] at ho
        subst ho
        refine ⟨rfl, ?_⟩
        have h68 := hF.slotK (i := 36) (s := 68) (v := .bool false) rfl (hdep ⟨36, .data⟩ (by simp) rfl) rfl
        have h75 := hF.slotK (i := 43) (s := 75) (v := .bool false) rfl (hdep ⟨43, .data⟩ (by simp) rfl) rfl
        exact owp_value (.bool false) (w' := W) (by clear hdep; go_simp) ⟨by simp [hl], hsz, hW, lb, (fun h => (hX79 (by rw [getD_set (by decide)] at h; exact h))), hF.putK 44 76 _ (by rw [hsz]; decide) rfl rfl⟩
      | 45, ho, hn =>
        simp only [List.getElem?_toArray, List.getElem?_cons_zero, List.getElem?_cons_succ, Option.some.injEq] at ho
        subst ho
        refine ⟨rfl, ?_⟩
        have h76 := hF.slotK (i := 44) (s := 76) (v := .bool false) rfl (hdep ⟨44, .data⟩ (by simp) rfl) rfl
        exact owp_value (.bool false) (w' := W) (by clear hdep; go_simp) ⟨by simp [hl], hsz, hW, lb, (fun h => (hX79 (by rw [getD_set (by decide)] at h; exact h))), hF.putK 45 77 _ (by rw [hsz]; decide) rfl rfl⟩
      | 46, ho, hn =>
        simp only [List.getElem?_toArray, List.getElem?_cons_zero, List.getElem?_cons_succ, Option.some.injEq] at ho
        subst ho
        refine ⟨wanted_of (j := 45) (s := 77) (b := false) rfl rfl rfl (hF.slotK (i := 45) (s := 77) (v := .bool false) rfl (hdep ⟨45, .guard⟩ (by simp) rfl) rfl), ?_⟩
        have h0 : a.tmps[0]?.getD undef = .pointer (some ⟨p, 0, none⟩) := hF.baseK 0 rfl rfl
        exact owp_value (.pointer (some ⟨p, 0, none⟩)) (w' := W) (by clear hdep; go_simp) ⟨by simp [hl], hsz, hW, lb, (fun h => (hX79 (by rw [getD_set (by decide)] at h; exact h))), hF.putK 46 78 _ (by rw [hsz]; decide) rfl rfl⟩
      | 47, ho, hn =>
        simp only [List.getElem?_toArray, List.getElem?_cons_zero, List.getElem?_cons_succ, Option.some.injEq] at ho
        subst ho
        refine ⟨wanted_of (j := 45) (s := 77) (b := false) rfl rfl rfl (hF.slotK (i := 45) (s := 77) (v := .bool false) rfl (hdep ⟨45, .guard⟩ (by simp) rfl) rfl), ?_⟩
        have h78 := hF.slotK (i := 46) (s := 78) (v := .pointer (some ⟨p, 0, none⟩)) rfl (hdep ⟨46, .data⟩ (by simp) rfl) rfl
        refine owp_call (fn := 24) (args := #[.pointer (some ⟨p, 0, none⟩)]) (by clear hdep; go_simp) ?_
        refine (HPAL.out W (HB5.out.trans (hW.mono HB5.out.size))).mono ?_
        rintro e w' ⟨lb9, Fi, rfl, hb, _, _⟩
        have hnew := True.intro
        have hF2 := hF.swapQ (V' := (fun i => ([.int .i64 (NN : Int), .pointer (some ⟨q, 0, none⟩), .pointer (some ⟨q, 0, none⟩), .pointer (some ⟨q, 0, none⟩), .pointer (some ⟨qn, 0, none⟩), .pointer (some ⟨qn, 0, none⟩), .pointer (some ⟨qn, 2, none⟩), .slice AE NN cE, .int .i64 (NN : Int), .bool false, .bool false, .int .i64 (NX : Int), .int .i64 (NX : Int), .bool false, .bool false, .bool false, .pointer (some ⟨p, 0, none⟩), .int .i64 (LF : Int), .pointer (some ⟨q, 0, none⟩), .int .i64 (LF : Int), .bool false, .bool false, .bool false, .pointer (some ⟨p, 0, none⟩), .int .i64 (NE : Int), .slice A NE c, .int .i64 (NE : Int), .bool false, .bool false, .bool false, .pointer (some ⟨p, 0, none⟩), .int .i64 (NM : Int), .pointer (some ⟨q, 0, none⟩), .int .i64 (NM : Int), .bool false, .bool false, .bool false, .pointer (some ⟨p, 0, none⟩), .agg #[.int .u64 (H : Int), .int .u32 (X : Int)], .bool hh, .pointer (some ⟨q, 0, none⟩), .agg #[.int .u64 (H : Int), .int .u32 (X : Int)], .bool hh, .bool false, .bool false, .bool false, .pointer (some ⟨p, 0, none⟩), .func (.func g) #[] lb9, .bool false, .bool false][i]?).getD undef)) 47 hn (fun q hq => by
          match q with
          | 0 => rfl
          | 1 => rfl
          | 2 => rfl
          | 3 => rfl
          | 4 => rfl
          | 5 => rfl
          | 6 => rfl
          | 7 => rfl
          | 8 => rfl
          | 9 => rfl
          | 10 => rfl
          | 11 => rfl
          | 12 => rfl
          | 13 => rfl
          | 14 => rfl
          | 15 => rfl
          | 16 => rfl
          | 17 => rfl
          | 18 => rfl
          | 19 => rfl
          | 20 => rfl
          | 21 => rfl
          | 22 => rfl
          | 23 => rfl
          | 24 => rfl
          | 25 => rfl
          | 26 => rfl
          | 27 => rfl
          | 28 => rfl
          | 29 => rfl
          | 30 => rfl
          | 31 => rfl
          | 32 => rfl
          | 33 => rfl
          | 34 => rfl
          | 35 => rfl
          | 36 => rfl
          | 37 => rfl
          | 38 => rfl
          | 39 => rfl
          | 40 => rfl
          | 41 => rfl
          | 42 => rfl
          | 43 => rfl
          | 44 => rfl
          | 45 => rfl
          | 46 => rfl
          | 47 => exact absurd rfl hq
          | 48 => rfl
          | 49 => rfl
          | q + 50 => rfl)
        exact ⟨_, rfl, by simp [hl], hsz, hW.trans (hb.mono hW.size), lb9, (fun _ => hnew), hF2.putK 47 79 _ (by rw [hsz]; decide) rfl rfl⟩
      | 48, ho, hn =>
        simp only [List.getElem?_toArray, List.getElem?_cons_zero, List.getElem?_cons_succ, Option.some.injEq] at ho
        subst ho
        refine ⟨wanted_of (j := 45) (s := 77) (b := false) rfl rfl rfl (hF.slotK (i := 45) (s := 77) (v := .bool false) rfl (hdep ⟨45, .guard⟩ (by simp) rfl) rfl), ?_⟩
        have h79 := hF.slotK (i := 47) (s := 79) (v := .func (.func g) #[] lb) rfl (hdep ⟨47, .data⟩ (by simp) rfl) rfl
        exact owp_value (.bool false) (w' := W) (by clear hdep; go_simp) ⟨by simp [hl], hsz, hW, lb, (fun h => (hX79 (by rw [getD_set (by decide)] at h; exact h))), hF.putK 48 80 _ (by rw [hsz]; decide) rfl rfl⟩
      | 49, ho, hn =>
        simp only [List.getElem?_toArray, List.getElem?_cons_zero, List.getElem?_cons_succ, Option.some.injEq] at ho
        subst ho
        refine ⟨rfl, ?_⟩
        have h77 := hF.slotK (i := 45) (s := 77) (v := .bool false) rfl (hdep ⟨45, .data⟩ (by simp) rfl) rfl
        have h80 := hF.slotK (i := 48) (s := 80) (v := .bool false) rfl (hdep ⟨48, .data⟩ (by simp) rfl) rfl
        exact owp_value (.bool false) (w' := W) (by clear hdep; go_simp) ⟨by simp [hl], hsz, hW, lb, (fun h => (hX79 (by rw [getD_set (by decide)] at h; exact h))), hF.putK 49 81 _ (by rw [hsz]; decide) rfl rfl⟩
      | i5 + 50, ho, hn => simp at ho
    · intro l a W1 hI hall
      obtain ⟨_, _, hW1, lb, hX79, hF⟩ := hI
      have hall : ∀ i, i < 50 → l.getD i false = true := hall
      have ha := FrU.allQ (K := ([(0, 32), (1, 33), (2, 34), (3, 35), (4, 36), (5, 37), (6, 38), (7, 39), (8, 40), (9, 41), (10, 42), (11, 43), (12, 44), (13, 45), (14, 46), (15, 47), (16, 48), (17, 49), (18, 50), (19, 51), (20, 52), (21, 53), (22, 54), (23, 55), (24, 56), (25, 57), (26, 58), (27, 59), (28, 60), (29, 61), (30, 62), (31, 63), (32, 64), (33, 65), (34, 66), (35, 67), (36, 68), (37, 69), (38, 70), (39, 71), (40, 72), (41, 73), (42, 74), (43, 75), (44, 76), (45, 77), (46, 78), (47, 79), (48, 80), (49, 81)] : List (Nat × Nat))) (V := (fun i => ([.int .i64 (NN : Int), .pointer (some ⟨q, 0, none⟩), .pointer (some ⟨q, 0, none⟩), .pointer (some ⟨q, 0, none⟩), .pointer (some ⟨qn, 0, none⟩), .pointer (some ⟨qn, 0, none⟩), .pointer (some ⟨qn, 2, none⟩), .slice AE NN cE, .int .i64 (NN : Int), .bool false, .bool false, .int .i64 (NX : Int), .int .i64 (NX : Int), .bool false, .bool false, .bool false, .pointer (some ⟨p, 0, none⟩), .int .i64 (LF : Int), .pointer (some ⟨q, 0, none⟩), .int .i64 (LF : Int), .bool false, .bool false, .bool false, .pointer (some ⟨p, 0, none⟩), .int .i64 (NE : Int), .slice A NE c, .int .i64 (NE : Int), .bool false, .bool false, .bool false, .pointer (some ⟨p, 0, none⟩), .int .i64 (NM : Int), .pointer (some ⟨q, 0, none⟩), .int .i64 (NM : Int), .bool false, .bool false, .bool false, .pointer (some ⟨p, 0, none⟩), .agg #[.int .u64 (H : Int), .int .u32 (X : Int)], .bool hh, .pointer (some ⟨q, 0, none⟩), .agg #[.int .u64 (H : Int), .int .u32 (X : Int)], .bool hh, .bool false, .bool false, .bool false, .pointer (some ⟨p, 0, none⟩), .func (.func g) #[] lb, .bool false, .bool false][i]?).getD undef)) (BL := ([(0, 32, .int .i64 (NN : Int)), (1, 33, .pointer (some ⟨q, 0, none⟩)), (2, 34, .pointer (some ⟨q, 0, none⟩)), (3, 35, .pointer (some ⟨q, 0, none⟩)), (4, 36, .pointer (some ⟨qn, 0, none⟩)), (5, 37, .pointer (some ⟨qn, 0, none⟩)), (6, 38, .pointer (some ⟨qn, 2, none⟩)), (7, 39, .slice AE NN cE), (8, 40, .int .i64 (NN : Int)), (9, 41, .bool false), (10, 42, .bool false), (11, 43, .int .i64 (NX : Int)), (12, 44, .int .i64 (NX : Int)), (13, 45, .bool false), (14, 46, .bool false), (15, 47, .bool false), (16, 48, .pointer (some ⟨p, 0, none⟩)), (17, 49, .int .i64 (LF : Int)), (18, 50, .pointer (some ⟨q, 0, none⟩)), (19, 51, .int .i64 (LF : Int)), (20, 52, .bool false), (21, 53, .bool false), (22, 54, .bool false), (23, 55, .pointer (some ⟨p, 0, none⟩)), (24, 56, .int .i64 (NE : Int)), (25, 57, .slice A NE c), (26, 58, .int .i64 (NE : Int)), (27, 59, .bool false), (28, 60, .bool false), (29, 61, .bool false), (30, 62, .pointer (some ⟨p, 0, none⟩)), (31, 63, .int .i64 (NM : Int)), (32, 64, .pointer (some ⟨q, 0, none⟩)), (33, 65, .int .i64 (NM : Int)), (34, 66, .bool false), (35, 67, .bool false), (36, 68, .bool false), (37, 69, .pointer (some ⟨p, 0, none⟩)), (38, 70, .agg #[.int .u64 (H : Int), .int .u32 (X : Int)]), (39, 71, .bool hh), (40, 72, .pointer (some ⟨q, 0, none⟩)), (41, 73, .agg #[.int .u64 (H : Int), .int .u32 (X : Int)]), (42, 74, .bool hh), (43, 75, .bool false), (44, 76, .bool false), (45, 77, .bool false), (46, 78, .pointer (some ⟨p, 0, none⟩)), (47, 79, .func (.func g) #[] lb), (48, 80, .bool false), (49, 81, .bool false)] : List (Nat × Nat × Value))) hF rfl (n := 50) hall rfl
      subst ha
      have HW1 := Lib.hid hW1
      have HX79 := Lib.hid (hX79 (hall 47 (by decide)))
      clear hF hall hW1 hX79
      refine hKc _ _ ?_
      simp only [setAll, List.setIfInBounds_toArray, List.set_cons_succ, List.set_cons_zero]
      have HB6 := Lib.hid (HB5.out.trans (HW1.out.mono HB5.out.size))
      have HRD6 := Lib.hid (HRD5.out.keep (HW1.out.mono HU5.out))
      have HU6 : Hid (b10 ≤ W1.heap.size) := Lib.hid (Nat.le_trans HU5.out HW1.out.size)
      have HY6 : Hid (W1.heap[b6]? = some (.cells #[.bool false] 4 (0, 0))) := Lib.hid ((HW1.out.block b6 (lt_heap HX6.out)).trans HX6.out)
      have HY10 : Hid (W1.heap[b10]? = some (.cells #[.slice A NE c] 67 (0, 0))) := Lib.hid ((HW1.out.block b10 (lt_heap HX10.out)).trans HX10.out)
      have HY11 : Hid (W1.heap[b11]? = some (.cells #[.int .i64 0] 3 (0, 0))) := Lib.hid ((HW1.out.block b11 (lt_heap HX11.out)).trans HX11.out)
      clear HW1 HX5 HX6 HX10 HX11 HQ5 HX79 HRD5 HU5
      generalize W1 = u6 at *
      go_wp2_with (first
        | (go_at_call 24
           refine (HPAL.out u6 HB6.out).mono ?_
           rintro e u7 ⟨lb6, Fi, rfl, hb, hFi, hst⟩
           have HB7 := Lib.hid (HB6.out.trans (hb.mono HB6.out.size))
           have HRD7 := Lib.hid (HRD6.out.keep (hb.mono HU6.out))
           have HZ6 : Hid (u7.heap[b6]? = some (.cells #[.bool false] 4 (0, 0))) := Lib.hid ((hb.block b6 (lt_heap HY6.out)).trans HY6.out)
           have HZ10 : Hid (u7.heap[b10]? = some (.cells #[.slice A NE c] 67 (0, 0))) := Lib.hid ((hb.block b10 (lt_heap HY10.out)).trans HY10.out)
           have HZ11 : Hid (u7.heap[b11]? = some (.cells #[.int .i64 0] 3 (0, 0))) := Lib.hid ((hb.block b11 (lt_heap HY11.out)).trans HY11.out)
           have HFi := Lib.hid hFi
           have HST := Lib.hid hst
           have HB67 := Lib.hid hb.size
           have HBL11 := Lib.hid (lt_heap HY11.out)
           clear hb hFi hst HY6 HY10 HY11 HRD6))
      have hRo : ∀ k, k = b11 → k < u7.heap.size := fun k e => by rw [e]; exact lt_heap HZ11.out
      have hRb : ∀ k, Fi k → ¬ (k = b11) := fun k hk hr => by
        obtain ⟨h1, h2⟩ := HFi.out k hk
        have h3 := HBL11.out
        have h4 := HFO.out
        have h5 := H611.out
        rcases h2 with h2 | h2
        · have := h4 k h2
          omega
        · omega
      refine wpIn_wide (n := 13).1 ?_
      refine wpIn_rangeFunc_Q rfl (by omega) (gf := g) (lb := lb6) rfl trivial eg (HST.out (fun k => k = b11) hRb hRo) (Below.refl _ _) (fun _ => rfl) keptC_t keptC_b
        (fun pre W => Boxed W b11 3 (.int .i64 (pre.length : Int)) ∧ Kept (fun k => k = b11) u7 W)
        (fun _ _ _ => False)
        (OwnFrom.and (Own.from (boxed_own b11 3 (fun pre : List (Nat × Nat) => Value.int .i64 (pre.length : Int))) _) (ownFrom_kept (Nat.le_refl _)))
        (fun _ _ _ _ _ hs _ _ => hs)
        ⟨HZ11.out, Kept.refl _ _⟩
        (fun pre x a' W => (Boxed W b11 3 (.int .i64 (pre.length : Int)) ∧ Kept (fun k => k = b11) u7 W) ∧ ∃ Bx, u7.heap.size ≤ Bx ∧ W.heap[Bx]? = some (.cells #[.int .u64 (x.1 : Int), .int .u32 (x.2 : Int)] 34 (0, 0)) ∧ a' = { tmps := #[.pointer (some ⟨p, 0, none⟩), .pointer (some ⟨q, 0, none⟩), .agg #[.int .u64 (H : Int), .int .u32 (X : Int)], undef, undef, .pointer (some ⟨b5, 0, none⟩), .pointer (some ⟨b6, 0, none⟩), .int .i64 (NN : Int), .int .i64 (NX : Int), .int .i64 (NX : Int), .pointer (some ⟨b10, 0, none⟩), .pointer (some ⟨b11, 0, none⟩), .pointer (some ⟨Bx, 0, none⟩), .tuple #[.int .i64 (NN : Int), .int .i64 (NX : Int)], .pointer (some ⟨p, 0, none⟩), .tuple #[.int .i64 (NN : Int), .int .i64 (NX : Int)], .int .i64 (NN : Int), .int .i64 (NX : Int), .pointer (some ⟨q, 0, none⟩), .pointer (some ⟨q, 0, none⟩), .pointer (some ⟨q, 2, none⟩), .bool true, .pointer (some ⟨q, 0, none⟩), .pointer (some ⟨q, 0, none⟩), .pointer (some ⟨q, 1, none⟩), .pointer (some ⟨qx, 0, none⟩), .pointer (some ⟨qx, 0, none⟩), .pointer (some ⟨qx, 2, none⟩), .slice AX NX cX, .int .i64 (NX : Int), .pointer (some ⟨q, 0, none⟩), .slice A NE c, .int .i64 (NN : Int), .pointer (some ⟨q, 0, none⟩), .pointer (some ⟨q, 0, none⟩), .pointer (some ⟨q, 0, none⟩), .pointer (some ⟨qn, 0, none⟩), .pointer (some ⟨qn, 0, none⟩), .pointer (some ⟨qn, 2, none⟩), .slice AE NN cE, .int .i64 (NN : Int), .bool false, .bool false, .int .i64 (NX : Int), .int .i64 (NX : Int), .bool false, .bool false, .bool false, .pointer (some ⟨p, 0, none⟩), .int .i64 (LF : Int), .pointer (some ⟨q, 0, none⟩), .int .i64 (LF : Int), .bool false, .bool false, .bool false, .pointer (some ⟨p, 0, none⟩), .int .i64 (NE : Int), .slice A NE c, .int .i64 (NE : Int), .bool false, .bool false, .bool false, .pointer (some ⟨p, 0, none⟩), .int .i64 (NM : Int), .pointer (some ⟨q, 0, none⟩), .int .i64 (NM : Int), .bool false, .bool false, .bool false, .pointer (some ⟨p, 0, none⟩), .agg #[.int .u64 (H : Int), .int .u32 (X : Int)], .bool hh, .pointer (some ⟨q, 0, none⟩), .agg #[.int .u64 (H : Int), .int .u32 (X : Int)], .bool hh, .bool false, .bool false, .bool false, .pointer (some ⟨p, 0, none⟩), .func (.func g) #[] lb, .bool false, .bool false, .pointer (some ⟨p, 0, none⟩), .func (.func g) #[] lb6, .agg #[.int .u64 (x.1 : Int), .int .u32 (x.2 : Int)], undef, undef, undef, undef, undef, undef, undef, undef, undef, undef, undef, undef, undef, undef, undef, undef, undef, undef], defers := [] })
        (fun pre x a' _ X Y row hs hg hr => by obtain ⟨h0, Bx, h1, h2, h3⟩ := hs; exact ⟨(OwnFrom.and (Own.from (boxed_own b11 3 (fun pre : List (Nat × Nat) => Value.int .i64 (pre.length : Int))) _) (ownFrom_kept (Nat.le_refl _))) pre X Y row h0 hg hr, Bx, h1, (grownBy_keeps_cells hg (fun r e => (hr r e).2) h2 rfl).trans h2, h3⟩)
        ?assign ?body ?done ?stop
      case assign =>
        rintro l pre x W ⟨hb1, hk1⟩ hpre
        unfold gEnc
        gi_wp2
        exact ⟨(KeepsOthers.alloc _ _).from _, KeptC.of_kept ((Kept.refl _ W).alloc _), ⟨hb1.alloc _, hk1.alloc _⟩, W.heap.size, hk1.size, heap_alloc_new W _, rfl⟩
      case body =>
        rintro l pre x a' W hpre ⟨⟨bN, hk1⟩, Bx, hBx, bX, rfl⟩
        have hlt : pre.length < s.all.length := by have := hpre.length_le; rw [List.length_append] at this; simp at this; omega
        obtain ⟨hb611, hb610, hwb⟩ := H611.out
        have hlt10 := lt_heap HZ10.out
        have hlt11 := lt_heap HZ11.out
        have hsz1 := hk1.size
        have HLT : Hid (pre.length < NE) := Lib.hid (by rw [HNE.out]; exact hlt)
        have hlen := HLT.out
        obtain ⟨y, hyx, hat⟩ : ∃ y, y = x ∧ s.all[pre.length]? = some y := ⟨x, rfl, by
          obtain ⟨t, ht⟩ := hpre
          rw [← ht, List.append_assoc, List.getElem?_append_right (Nat.le_refl _), Nat.sub_self]
          rfl⟩
        clear hpre
        have hyx := Lib.hid hyx
        obtain ⟨n0, hn0⟩ : ∃ n0, n0 = pre.length := ⟨_, rfl⟩
        have HPN := Lib.hid hn0
        rw [← hn0] at bN hlen hat
        clear hn0
        have x11 : ∀ V : Stay W, V.w.cell? ⟨b11, 0, none⟩ = some (.int .i64 (n0 : Int)) := fun V => Stay.cell bN.cell V
        have x10 : ∀ V : Stay W, V.w.cell? ⟨b10, 0, none⟩ = some (.slice A NE c) := fun V => Stay.cell ((hk1.cell (p := ⟨b10, 0, none⟩) hlt10 (by show ¬ b10 = b11; omega)).trans (blk_cell HZ10.out 0)) V
        have HXX := Lib.hid (stay_hp bX)
        have hge : decide ((NE : Int) ≤ (n0 : Int)) = false := by simp; omega
        have hge2 : decide (NE ≤ n0) = false := by simp; omega
        have hge3 : decide ((n0 : Int) ≥ (NE : Int)) = false := by simp; omega
        obtain ⟨bA, off, rfl, hbb, hcc⟩ := rdc_pos HRD7.out (by omega)
        have hrg : W.rangeAt bA (off + n0 * 2) (#[.int .u64 (y.1 : Int), .int .u32 (y.2 : Int)] : Array Value).toList := fun j v hv => by
          have hj : j < 2 := by
            rcases Nat.lt_or_ge j 2 with q | q
            · exact q
            · rw [List.getElem?_eq_none (by simpa using q)] at hv; cases hv
          have hc := hcc (n0 * 2 + j) (by omega)
          rw [Nat.add_assoc]
          refine (hk1.cell (p := ⟨bA, off + (n0 * 2 + j), none⟩) (by show bA < _; omega) (by show ¬ bA = b11; omega)).trans (hc.trans ?_)
          rw [← hv]
          have hg : s.all.getD n0 (0, 0) = y := by rw [List.getD_eq_getElem?_getD, hat]; rfl
          rcases (show j = 0 ∨ j = 1 by omega) with rfl | rfl
          · rw [Nat.add_zero, entR_0, hg]
            rfl
          · rw [entR_1, hg]
            rfl
        have HRG := Lib.hid (stay_rng (by show bA < W.heap.size; omega) hrg)
        have hix : ∀ V : World, (Instr.indexAt 67 (.slice (some ⟨bA, off, none⟩) NE c) (.int .i64 (n0 : Int))).run Try.prog V = .ok (.pointer (some ⟨bA, off + n0 * 2, none⟩)) V := fun V => by
          have i0 : (0 : Int) ≤ (n0 : Int) := by omega
          have i1 : (n0 : Int) < (NE : Int) := by omega
          have i2 : ((n0 : Int)).toNat = n0 := by omega
          go_simp
        have KF : ∀ V : Stay W, Hid (KeepsFrom u7.heap.size W V.w) := fun V => Lib.hid ⟨V.below.size, fun k o _ hk _ => (V.below.block k (Array.getElem?_eq_some_iff.1 hk).1).trans hk⟩
        have hb6W : W.heap[b6]? = some (.cells #[.bool false] 4 (0, 0)) := (hk1.block b6 (lt_heap HZ6.out) (by omega)).trans HZ6.out
        have H6W := Lib.hid hb6W
        have HK1 := Lib.hid hk1
        have HBN := Lib.hid bN
        have zw : IntKind.i64.wrap ((n0 : Int) + 1) = (n0 : Int) + 1 := by rw [IntKind.wrap_i64]; omega
        clear hrg hcc hbb hb6W hb611 hb610 hwb
        by_cases hxy : y = x
        · subst hxy
          have hne : ∀ V : World, (binOp .neq 34 (.agg #[.int .u64 (y.1 : Int), .int .u32 (y.2 : Int)]) (.agg #[.int .u64 (y.1 : Int), .int .u32 (y.2 : Int)])).run Try.prog V = .ok (.bool false) V := fun V => by rw [neqE]; simp
          clear hat hlt bN hk1 bX hBx hlen
          gi_wp2
          refine wpIn_region_stay (by kernel_rfl) (by kernel_rfl) (by kernel_rfl) ?_
          repeat (first
            | (refine qh_row rfl 34 (.tmp 12) rfl Bx rfl 34 #[.int .u64 (y.1 : Int), .int .u32 (y.2 : Int)] (0, 0) _ HXX.out Try.underlying34 rfl (by kernel_rfl) ?_
               simp only [Act.put, List.setIfInBounds_toArray, List.set_cons_zero, List.set_cons_succ])
            | (refine qh_mid rfl 34 (.tmp 93) rfl bA (off + n0 * 2) rfl #[.int .u64 (y.1 : Int), .int .u32 (y.2 : Int)] _ HRG.out Try.underlying34 rfl (by kernel_rfl) ?_
               simp only [Act.put, List.setIfInBounds_toArray, List.set_cons_zero, List.set_cons_succ])
            | go_big_quiet_step (fail))
          refine wpQuiet_nil ?_
          intro w' hw'
          obtain ⟨V, rfl⟩ := hw'
          have bV : Boxed V.w b11 3 (.int .i64 (n0 : Int)) := (V.below.block b11 (lt_heap HBN.out)).trans HBN.out
          have HBV := Lib.hid bV
          have c11 := bV.cell
          have f11 := bV.frozen
          clear bV x11 x10 hix hne
          gi_wp2
          refine ⟨(KF V).out.trans ((KeepsOthers.setCell _ _ _).from _), KeptC.of_kept ((Kept.of_below V.below (fun k => k = b11)).setCell (p := ⟨b11, 0, none⟩) (.inl rfl) _), ?_, (HK1.out.step V.below).setCell (p := ⟨b11, 0, none⟩) (.inl rfl) _⟩
          have e : ((pre ++ [y]).length : Int) = (n0 : Int) + 1 := by rw [List.length_append, ← HPN.out]; simp
          rw [e]
          exact blk_set HBV.out 0 _
        · exact absurd hyx.out hxy
      case stop =>
        rintro D c pre W _ _ h _
        exact h.elim
      case done =>
        rintro D W hD ⟨bN, hk1⟩ hK
        obtain ⟨hb611, hb610, hwb⟩ := H611.out
        obtain ⟨hw5, hw6⟩ := HW5.out
        have hlt11 := lt_heap HZ11.out
        have HWD : Hid (w.heap.size ≤ D) := Lib.hid (by have := HB7.out.size; omega)
        have X6 : Hid (W.heap[b6]? = some (.cells #[.bool false] 4 (0, 0))) := Lib.hid ((hk1.block b6 (lt_heap HZ6.out) (by omega)).trans HZ6.out)
        have HWW : Hid (Below w.heap.size w W) := Lib.hid (HB7.out.trans (hk1.below HB7.out.size fun k e => by rw [e]; omega))
        have n11 : W.cell? ⟨b11, 0, none⟩ = some (.int .i64 (NE : Int)) := by rw [HNE.out]; exact bN.cell
        have n10 : W.cell? ⟨b10, 0, none⟩ = some (.slice A NE c) := (hk1.cell (p := ⟨b10, 0, none⟩) (lt_heap HZ10.out) (by show ¬ b10 = b11; omega)).trans (blk_cell HZ10.out 0)
        have HK := Lib.hid hK
        have HB6L : Hid (w.heap.size ≤ b6) := Lib.hid (by omega)
        have c6 := blk_cell X6.out 0
        have f6 := blk_free X6.out 0
        clear bN hk1 hK hD hb611 hb610 hwb hw5 hw6 hlt11
        go_wp2_with fail
        clear c6 f6 n11 n10
        have hne : D ≠ b6 := fun e => by
          have h1 := HK.out
          rw [e, X6.out] at h1
          cases h1
        have hD9 : (W.setCell ⟨b6, 0, none⟩ (.bool true)).heap[D]? = some (.deferred (some [])) := blk_far HK.out (p := ⟨b6, 0, none⟩) hne _
        have hc9 : (W.setCell ⟨b6, 0, none⟩ (.bool true)).heap[b6]? = some (.cells #[.bool true] 4 (0, 0)) := blk_set X6.out 0 _
        have hg9 := grownBy_putObj' (W.setCell ⟨b6, 0, none⟩ (.bool true)) D (.deferred none)
        have hb9 : Below w.heap.size w (W.setCell ⟨b6, 0, none⟩ (.bool true)) := HWW.out.setCell (p := ⟨b6, 0, none⟩) HB6L.out _
        refine ⟨by simp, .inl ⟨_, _, rfl, run_takeDeferred hD9, ?_⟩⟩
        refine ⟨.bool true, results_flag rfl _ _ b6 true rfl ?_, rfl, hb9.grown hg9 hb9.size fun k e => by injection e with e; subst e; exact HWD.out⟩
        exact blk_cell ((hg9.block b6 (lt_heap hc9) fun e => hne (by injection e with e; exact e.symm)).trans hc9) 0
  | false =>
    have HMV := Lib.hid hmv
    clear hmv
    have hq := h.blk
    rw [HMV.out] at hq
    have HQ : Hid (w.heap[q]? = some (.cells #[.pointer (some ⟨qn, 0, none⟩), .pointer none, .bool false, .int .i64 (s.most : Int), .int .i64 (s.at_ : Int)] 63 (0, 0))) := Lib.hid hq
    have HQL := Lib.hid (lt_heap hq)
    obtain ⟨AE, cE, hE⟩ := tlen_c h.now
    rw [← hNN] at hE
    have HLE := Lib.hid hE
    have hpl : ((s.places : Nat) : Int) = 0 := by unfold Gr.places; rw [HMV.out, if_neg Bool.false_ne_true]; rfl
    rw [hpl] at HPPL
    clear hpl
    clear hq hE h hNN hNE hNM hLF hhh hs
    refine (callsIn_wide (n := 13)).1 ?_
    refine callsIn_of_wp_marks Try.func18 rfl trivial ?_ rfl
    refine wpIn_wide.2 ?_
    simp only [Try.ntmps18, List.size_toArray, List.length_cons, List.length_nil, Nat.reduceAdd, Nat.reduceSub, Array.replicate_succ, Array.replicate_zero, List.push_toArray, List.append_toArray, List.nil_append, List.cons_append]
    go_upto_region 1 with fail
    change Code.wp _ _ _ _ ((w.alloc (.cells #[.int .u64 (H : Int), .int .u32 (X : Int)] 34)).alloc (.cells #[.bool false] 4))
    have HM1 := Lib.hid HM0.out
    have HB1 := Lib.hid HM0.out.below
    clear HM0
    generalize (w.alloc (.cells #[.int .u64 (H : Int), .int .u32 (X : Int)] 34)).alloc (.cells #[.bool false] 4) = u1 at *
    obtain ⟨b5, hb5⟩ : ∃ b, b = w.heap.size := ⟨_, rfl⟩
    obtain ⟨b6, hb6⟩ : ∃ b, b = w.heap.size + 1 := ⟨_, rfl⟩
    have HW5 : Hid (b5 = w.heap.size ∧ b6 = w.heap.size + 1) := Lib.hid ⟨hb5, hb6⟩
    rw [← hb6, ← hb5] at HM1
    rw [← hb6, ← hb5]
    clear hb5 hb6
    go_upto_region 3 with (first
      | (go_at_call 19
         refine (HPPL.out u1 HB1.out).mono ?_
         rintro e u2 ⟨rfl, hb⟩
         have HM2 := Lib.hid (HM1.out.step hb)
         have HB2 := Lib.hid (HB1.out.trans (hb.mono HB1.out.size))
         clear hb HM1))
    have x2 : u2.cell? ⟨q, 2, none⟩ = some (.bool false) := blk_cell ((HB2.out.block q HQL.out).trans HQ.out) 2
    go_upto_region 5 with fail
    clear x2 
    go_upto_region 6 with (first
      | (go_at_call 49
         refine (HRAL.out u2 HB2.out).mono ?_
         rintro e u3 ⟨A, c, rfl, ho, hb⟩
         have HM3 := Lib.hid (HM2.out.step hb)
         have HB3 := Lib.hid (HB2.out.trans (hb.mono HB2.out.size))
         have HO3 := Lib.hid ho
         have HU3 := Lib.hid hb.size
         clear ho hb HM2))
    have HM4 : Hid (Mem w ((u3.alloc (.cells #[.slice A NE c] 67)).alloc (.cells #[.int .i64 0] 3)) _) := Lib.hid ((HM3.out.alloc (.cells #[.slice A NE c] 67)).alloc (.cells #[.int .i64 0] 3))
    have hb35 : Below u3.heap.size u3 ((u3.alloc (.cells #[.slice A NE c] 67)).alloc (.cells #[.int .i64 0] 3)) := (below_alloc u3 _).alloc (below_alloc u3 _).size _
    have HB5 := Lib.hid (HB3.out.trans (hb35.mono HB3.out.size))
    obtain ⟨b10, hb10⟩ : ∃ b, b = u3.heap.size := ⟨_, rfl⟩
    obtain ⟨b11, hb11⟩ : ∃ b, b = u3.heap.size + 1 := ⟨_, rfl⟩
    have HRD5 : Hid (RdC ((u3.alloc (.cells #[.slice A NE c] 67)).alloc (.cells #[.int .i64 0] 3)) b10 A (NE * 2) (entR s.all)) := Lib.hid (by
      rw [hb10]
      exact HO3.out.rd.keep hb35)
    have HU5 : Hid (b10 ≤ ((u3.alloc (.cells #[.slice A NE c] 67)).alloc (.cells #[.int .i64 0] 3)).heap.size) := Lib.hid (by rw [hb10]; exact hb35.size)
    have H611 : Hid (b11 = b10 + 1 ∧ b6 < b10 ∧ w.heap.size ≤ b10) := Lib.hid ⟨by rw [hb11, hb10], by rw [hb10]; exact lt_heap (HM3.out.get 1 rfl), by rw [hb10]; exact HB3.out.size⟩
    have HX10 : Hid (((u3.alloc (.cells #[.slice A NE c] 67)).alloc (.cells #[.int .i64 0] 3)).heap[b10]? = some (.cells #[.slice A NE c] 67 (0, 0))) := Lib.hid (by rw [hb10]; exact HM4.out.get 2 rfl)
    have HX11 : Hid (((u3.alloc (.cells #[.slice A NE c] 67)).alloc (.cells #[.int .i64 0] 3)).heap[b11]? = some (.cells #[.int .i64 0] 3 (0, 0))) := Lib.hid (by
      have h := HM4.out.get 3 rfl
      rw [hb11]
      simpa using h)
    have HX5 : Hid (((u3.alloc (.cells #[.slice A NE c] 67)).alloc (.cells #[.int .i64 0] 3)).heap[b5]? = some (.cells #[.int .u64 (H : Int), .int .u32 (X : Int)] 34 (0, 0))) := Lib.hid (HM4.out.get 0 rfl)
    have HX6 : Hid (((u3.alloc (.cells #[.slice A NE c] 67)).alloc (.cells #[.int .i64 0] 3)).heap[b6]? = some (.cells #[.bool false] 4 (0, 0))) := Lib.hid (HM4.out.get 1 rfl)
    rw [← hb11, ← hb10]
    clear hb10 hb11 HM4 HM3 HO3 hb35
    generalize (u3.alloc (.cells #[.slice A NE c] 67)).alloc (.cells #[.int .i64 0] 3) = u5 at *
    have HQ5 : Hid (u5.heap[q]? = some (.cells #[.pointer (some ⟨qn, 0, none⟩), .pointer none, .bool false, .int .i64 (s.most : Int), .int .i64 (s.at_ : Int)] 63 (0, 0))) := Lib.hid ((HB5.out.block q HQL.out).trans HQ.out)
    have HQL5 := Lib.hid (lt_heap HQ5.out)
    rename_i Kc hKc
    refine wp_region_invG (fun a0 l a W => l.size = 50 ∧ a0.tmps.size = 103 ∧ Below u5.heap.size u5 W ∧ ∃ (lb : Array Value), (l.getD 47 false = true → True) ∧ FrU a0 (kv ([(0, 32), (1, 33), (2, 34), (3, 35), (4, 36), (5, 37), (6, 38), (7, 39), (8, 40), (9, 41), (10, 42), (11, 43), (12, 44), (13, 45), (14, 46), (15, 47), (16, 48), (17, 49), (18, 50), (19, 51), (20, 52), (21, 53), (22, 54), (23, 55), (24, 56), (25, 57), (26, 58), (27, 59), (28, 60), (29, 61), (30, 62), (31, 63), (32, 64), (33, 65), (34, 66), (35, 67), (36, 68), (37, 69), (38, 70), (39, 71), (40, 72), (41, 73), (42, 74), (43, 75), (44, 76), (45, 77), (46, 78), (47, 79), (48, 80), (49, 81)] : List (Nat × Nat)) (fun i => ([.int .i64 (NN : Int), .pointer (some ⟨q, 0, none⟩), .pointer (some ⟨q, 0, none⟩), .pointer (some ⟨q, 0, none⟩), .pointer (some ⟨qn, 0, none⟩), .pointer (some ⟨qn, 0, none⟩), .pointer (some ⟨qn, 2, none⟩), .slice AE NN cE, .int .i64 (NN : Int), .bool false, .bool false, .int .i64 0, .int .i64 0, .bool false, .bool false, .bool false, .pointer (some ⟨p, 0, none⟩), .int .i64 (LF : Int), .pointer (some ⟨q, 0, none⟩), .int .i64 (LF : Int), .bool false, .bool false, .bool false, .pointer (some ⟨p, 0, none⟩), .int .i64 (NE : Int), .slice A NE c, .int .i64 (NE : Int), .bool false, .bool false, .bool false, .pointer (some ⟨p, 0, none⟩), .int .i64 (NM : Int), .pointer (some ⟨q, 0, none⟩), .int .i64 (NM : Int), .bool false, .bool false, .bool false, .pointer (some ⟨p, 0, none⟩), .agg #[.int .u64 (H : Int), .int .u32 (X : Int)], .bool hh, .pointer (some ⟨q, 0, none⟩), .agg #[.int .u64 (H : Int), .int .u32 (X : Int)], .bool hh, .bool false, .bool false, .bool false, .pointer (some ⟨p, 0, none⟩), .func (.func g) #[] lb, .bool false, .bool false][i]?).getD undef)) l a) ?_ ?_ ?_ ?_ ?_ ?_
    · kernel_rfl
    · exact fun _ _ _ h => h.1
    · kernel_rfl
    · exact ⟨by simp, rfl, (Below.refl _ _).drew, #[], (fun h => by rw [getD_none] at h; cases h), FrU.start _ _ _⟩
    · intro l a W i5 o hI ho hn hdep
      obtain ⟨hl, hsz, hW, lb, hX79, hF⟩ := hI
      have hx0 : W.cell? ⟨q, 0, none⟩ = some (.pointer (some ⟨qn, 0, none⟩)) := blk_cell ((hW.block q HQL5.out).trans HQ5.out) 0
      have hxn : W.cell? ⟨qn, 2, none⟩ = some (.slice AE NN cE) := HLE.out W (HB5.out.trans (hW.mono HB5.out.size))
      have hxa : W.cell? ⟨b10, 0, none⟩ = some (.slice A NE c) := blk_cell ((hW.block b10 (lt_heap HX10.out)).trans HX10.out) 0
      have hx5 : W.heap[b5]? = some (.cells #[.int .u64 (H : Int), .int .u32 (X : Int)] 34 (0, 0)) := (hW.block b5 (lt_heap HX5.out)).trans HX5.out
      have h99 : ∀ lb (V : World), (binOp .eql 54 (.func (.func g) #[] lb) .nilFunc).run Try.prog V = .ok (.bool false) V := fun _ _ => by kernel_rfl
      have hfb : (hh != hh) = false := by cases hh <;> rfl
      match i5, ho, hn with
      | 0, ho, hn =>
        simp only [List.getElem?_toArray, List.getElem?_cons_zero, Option.some.injEq] at ho
        subst ho
        refine ⟨rfl, ?_⟩
        have h7 : a.tmps[7]?.getD undef = .int .i64 (NN : Int) := hF.baseK 7 rfl rfl
        exact owp_value (.int .i64 (NN : Int)) (w' := W) (by clear hdep; go_simp) ⟨by simp [hl], hsz, hW, lb, (fun h => (hX79 (by rw [getD_set (by decide)] at h; exact h))), hF.putK 0 32 _ (by rw [hsz]; decide) rfl rfl⟩
      | 1, ho, hn =>
        simp only [List.getElem?_toArray, List.getElem?_cons_zero, List.getElem?_cons_succ, Option.some.injEq] at ho
        subst ho
        refine ⟨rfl, ?_⟩
        have h1 : a.tmps[1]?.getD undef = .pointer (some ⟨q, 0, none⟩) := hF.baseK 1 rfl rfl
        exact owp_value (.pointer (some ⟨q, 0, none⟩)) (w' := W) (by clear hdep; go_simp) ⟨by simp [hl], hsz, hW, lb, (fun h => (hX79 (by rw [getD_set (by decide)] at h; exact h))), hF.putK 1 33 _ (by rw [hsz]; decide) rfl rfl⟩
      | 2, ho, hn =>
        simp only [List.getElem?_toArray, List.getElem?_cons_zero, List.getElem?_cons_succ, Option.some.injEq] at ho
        subst ho
        refine ⟨rfl, ?_⟩
        have h33 := hF.slotK (i := 1) (s := 33) (v := .pointer (some ⟨q, 0, none⟩)) rfl (hdep ⟨1, .data⟩ (by simp) rfl) rfl
        exact owp_value (.pointer (some ⟨q, 0, none⟩)) (w' := W) (by clear hdep; go_simp) ⟨by simp [hl], hsz, hW, lb, (fun h => (hX79 (by rw [getD_set (by decide)] at h; exact h))), hF.putK 2 34 _ (by rw [hsz]; decide) rfl rfl⟩
      | 3, ho, hn =>
        simp only [List.getElem?_toArray, List.getElem?_cons_zero, List.getElem?_cons_succ, Option.some.injEq] at ho
        subst ho
        refine ⟨rfl, ?_⟩
        have h34 := hF.slotK (i := 2) (s := 34) (v := .pointer (some ⟨q, 0, none⟩)) rfl (hdep ⟨2, .data⟩ (by simp) rfl) rfl
        exact owp_value (.pointer (some ⟨q, 0, none⟩)) (w' := W) (by clear hdep; go_simp) ⟨by simp [hl], hsz, hW, lb, (fun h => (hX79 (by rw [getD_set (by decide)] at h; exact h))), hF.putK 3 35 _ (by rw [hsz]; decide) rfl rfl⟩
      | 4, ho, hn =>
        simp only [List.getElem?_toArray, List.getElem?_cons_zero, List.getElem?_cons_succ, Option.some.injEq] at ho
        subst ho
        refine ⟨rfl, ?_⟩
        have h35 := hF.slotK (i := 3) (s := 35) (v := .pointer (some ⟨q, 0, none⟩)) rfl (hdep ⟨3, .data⟩ (by simp) rfl) rfl
        exact owp_value (.pointer (some ⟨qn, 0, none⟩)) (w' := W) (by clear hdep; go_simp) ⟨by simp [hl], hsz, hW, lb, (fun h => (hX79 (by rw [getD_set (by decide)] at h; exact h))), hF.putK 4 36 _ (by rw [hsz]; decide) rfl rfl⟩
      | 5, ho, hn =>
        simp only [List.getElem?_toArray, List.getElem?_cons_zero, List.getElem?_cons_succ, Option.some.injEq] at ho
        subst ho
        refine ⟨rfl, ?_⟩
        have h36 := hF.slotK (i := 4) (s := 36) (v := .pointer (some ⟨qn, 0, none⟩)) rfl (hdep ⟨4, .data⟩ (by simp) rfl) rfl
        exact owp_value (.pointer (some ⟨qn, 0, none⟩)) (w' := W) (by clear hdep; go_simp) ⟨by simp [hl], hsz, hW, lb, (fun h => (hX79 (by rw [getD_set (by decide)] at h; exact h))), hF.putK 5 37 _ (by rw [hsz]; decide) rfl rfl⟩
      | 6, ho, hn =>
        simp only [List.getElem?_toArray, List.getElem?_cons_zero, List.getElem?_cons_succ, Option.some.injEq] at ho
        subst ho
        refine ⟨rfl, ?_⟩
        have h37 := hF.slotK (i := 5) (s := 37) (v := .pointer (some ⟨qn, 0, none⟩)) rfl (hdep ⟨5, .data⟩ (by simp) rfl) rfl
        exact owp_value (.pointer (some ⟨qn, 2, none⟩)) (w' := W) (by clear hdep; go_simp) ⟨by simp [hl], hsz, hW, lb, (fun h => (hX79 (by rw [getD_set (by decide)] at h; exact h))), hF.putK 6 38 _ (by rw [hsz]; decide) rfl rfl⟩
      | 7, ho, hn =>
        simp only [List.getElem?_toArray, List.getElem?_cons_zero, List.getElem?_cons_succ, Option.some.injEq] at ho
        subst ho
        refine ⟨rfl, ?_⟩
        have h38 := hF.slotK (i := 6) (s := 38) (v := .pointer (some ⟨qn, 2, none⟩)) rfl (hdep ⟨6, .data⟩ (by simp) rfl) rfl
        exact owp_value (.slice AE NN cE) (w' := W) (by clear hdep; go_simp) ⟨by simp [hl], hsz, hW, lb, (fun h => (hX79 (by rw [getD_set (by decide)] at h; exact h))), hF.putK 7 39 _ (by rw [hsz]; decide) rfl rfl⟩
      | 8, ho, hn =>
        simp only [List.getElem?_toArray, List.getElem?_cons_zero, List.getElem?_cons_succ, Option.some.injEq] at ho
        subst ho
        refine ⟨rfl, ?_⟩
        have h39 := hF.slotK (i := 7) (s := 39) (v := .slice AE NN cE) rfl (hdep ⟨7, .data⟩ (by simp) rfl) rfl
        exact owp_value (.int .i64 (NN : Int)) (w' := W) (by clear hdep; go_simp) ⟨by simp [hl], hsz, hW, lb, (fun h => (hX79 (by rw [getD_set (by decide)] at h; exact h))), hF.putK 8 40 _ (by rw [hsz]; decide) rfl rfl⟩
      | 9, ho, hn =>
        simp only [List.getElem?_toArray, List.getElem?_cons_zero, List.getElem?_cons_succ, Option.some.injEq] at ho
        subst ho
        refine ⟨rfl, ?_⟩
        have h32 := hF.slotK (i := 0) (s := 32) (v := .int .i64 (NN : Int)) rfl (hdep ⟨0, .data⟩ (by simp) rfl) rfl
        have h40 := hF.slotK (i := 8) (s := 40) (v := .int .i64 (NN : Int)) rfl (hdep ⟨8, .data⟩ (by simp) rfl) rfl
        exact owp_value (.bool false) (w' := W) (by clear hdep; go_simp) ⟨by simp [hl], hsz, hW, lb, (fun h => (hX79 (by rw [getD_set (by decide)] at h; exact h))), hF.putK 9 41 _ (by rw [hsz]; decide) rfl rfl⟩
      | 10, ho, hn =>
        simp only [List.getElem?_toArray, List.getElem?_cons_zero, List.getElem?_cons_succ, Option.some.injEq] at ho
        subst ho
        refine ⟨rfl, ?_⟩
        have h41 := hF.slotK (i := 9) (s := 41) (v := .bool false) rfl (hdep ⟨9, .data⟩ (by simp) rfl) rfl
        exact owp_value (.bool false) (w' := W) (by clear hdep; go_simp) ⟨by simp [hl], hsz, hW, lb, (fun h => (hX79 (by rw [getD_set (by decide)] at h; exact h))), hF.putK 10 42 _ (by rw [hsz]; decide) rfl rfl⟩
      | 11, ho, hn =>
        simp only [List.getElem?_toArray, List.getElem?_cons_zero, List.getElem?_cons_succ, Option.some.injEq] at ho
        subst ho
        refine ⟨wanted_of (j := 10) (s := 42) (b := false) rfl rfl rfl (hF.slotK (i := 10) (s := 42) (v := .bool false) rfl (hdep ⟨10, .guard⟩ (by simp) rfl) rfl), ?_⟩
        have h8 : a.tmps[8]?.getD undef = .int .i64 0 := hF.baseK 8 rfl rfl
        exact owp_value (.int .i64 0) (w' := W) (by clear hdep; go_simp) ⟨by simp [hl], hsz, hW, lb, (fun h => (hX79 (by rw [getD_set (by decide)] at h; exact h))), hF.putK 11 43 _ (by rw [hsz]; decide) rfl rfl⟩
      | 12, ho, hn =>
        simp only [List.getElem?_toArray, List.getElem?_cons_zero, List.getElem?_cons_succ, Option.some.injEq] at ho
        subst ho
        refine ⟨wanted_of (j := 10) (s := 42) (b := false) rfl rfl rfl (hF.slotK (i := 10) (s := 42) (v := .bool false) rfl (hdep ⟨10, .guard⟩ (by simp) rfl) rfl), ?_⟩
        have h9 : a.tmps[9]?.getD undef = .int .i64 0 := hF.baseK 9 rfl rfl
        exact owp_value (.int .i64 0) (w' := W) (by clear hdep; go_simp) ⟨by simp [hl], hsz, hW, lb, (fun h => (hX79 (by rw [getD_set (by decide)] at h; exact h))), hF.putK 12 44 _ (by rw [hsz]; decide) rfl rfl⟩
      | 13, ho, hn =>
        simp only [List.getElem?_toArray, List.getElem?_cons_zero, List.getElem?_cons_succ, Option.some.injEq] at ho
        subst ho
        refine ⟨wanted_of (j := 10) (s := 42) (b := false) rfl rfl rfl (hF.slotK (i := 10) (s := 42) (v := .bool false) rfl (hdep ⟨10, .guard⟩ (by simp) rfl) rfl), ?_⟩
        have h43 := hF.slotK (i := 11) (s := 43) (v := .int .i64 0) rfl (hdep ⟨11, .data⟩ (by simp) rfl) rfl
        have h44 := hF.slotK (i := 12) (s := 44) (v := .int .i64 0) rfl (hdep ⟨12, .data⟩ (by simp) rfl) rfl
        exact owp_value (.bool false) (w' := W) (by clear hdep; go_simp) ⟨by simp [hl], hsz, hW, lb, (fun h => (hX79 (by rw [getD_set (by decide)] at h; exact h))), hF.putK 13 45 _ (by rw [hsz]; decide) rfl rfl⟩
      | 14, ho, hn =>
        simp only [List.getElem?_toArray, List.getElem?_cons_zero, List.getElem?_cons_succ, Option.some.injEq] at ho
        subst ho
        refine ⟨rfl, ?_⟩
        have h42 := hF.slotK (i := 10) (s := 42) (v := .bool false) rfl (hdep ⟨10, .data⟩ (by simp) rfl) rfl
        have h45 := hF.slotK (i := 13) (s := 45) (v := .bool false) rfl (hdep ⟨13, .data⟩ (by simp) rfl) rfl
        exact owp_value (.bool false) (w' := W) (by clear hdep; go_simp) ⟨by simp [hl], hsz, hW, lb, (fun h => (hX79 (by rw [getD_set (by decide)] at h; exact h))), hF.putK 14 46 _ (by rw [hsz]; decide) rfl rfl⟩
      | 15, ho, hn =>
        simp only [List.getElem?_toArray, List.getElem?_cons_zero, List.getElem?_cons_succ, Option.some.injEq] at ho
        subst ho
        refine ⟨rfl, ?_⟩
        have h46 := hF.slotK (i := 14) (s := 46) (v := .bool false) rfl (hdep ⟨14, .data⟩ (by simp) rfl) rfl
        exact owp_value (.bool false) (w' := W) (by clear hdep; go_simp) ⟨by simp [hl], hsz, hW, lb, (fun h => (hX79 (by rw [getD_set (by decide)] at h; exact h))), hF.putK 15 47 _ (by rw [hsz]; decide) rfl rfl⟩
      | 16, ho, hn =>
        simp only [List.getElem?_toArray, List.getElem?_cons_zero, List.getElem?_cons_succ, Option.some.injEq] at ho
        subst ho
        refine ⟨wanted_of (j := 15) (s := 47) (b := false) rfl rfl rfl (hF.slotK (i := 15) (s := 47) (v := .bool false) rfl (hdep ⟨15, .guard⟩ (by simp) rfl) rfl), ?_⟩
        have h0 : a.tmps[0]?.getD undef = .pointer (some ⟨p, 0, none⟩) := hF.baseK 0 rfl rfl
        exact owp_value (.pointer (some ⟨p, 0, none⟩)) (w' := W) (by clear hdep; go_simp) ⟨by simp [hl], hsz, hW, lb, (fun h => (hX79 (by rw [getD_set (by decide)] at h; exact h))), hF.putK 16 48 _ (by rw [hsz]; decide) rfl rfl⟩
      | 17, ho, hn =>
        simp only [List.getElem?_toArray, List.getElem?_cons_zero, List.getElem?_cons_succ, Option.some.injEq] at ho
        subst ho
        refine ⟨wanted_of (j := 15) (s := 47) (b := false) rfl rfl rfl (hF.slotK (i := 15) (s := 47) (v := .bool false) rfl (hdep ⟨15, .guard⟩ (by simp) rfl) rfl), ?_⟩
        have h48 := hF.slotK (i := 16) (s := 48) (v := .pointer (some ⟨p, 0, none⟩)) rfl (hdep ⟨16, .data⟩ (by simp) rfl) rfl
        refine owp_call (fn := 22) (args := #[.pointer (some ⟨p, 0, none⟩)]) (by clear hdep; go_simp) ?_
        refine (HPLF.out W (HB5.out.trans (hW.mono HB5.out.size))).mono ?_
        rintro e w' ⟨rfl, hb⟩
        exact ⟨_, rfl, by simp [hl], hsz, hW.trans (hb.mono hW.size), lb, (fun h => True.intro), hF.putK 17 49 _ (by rw [hsz]; decide) rfl rfl⟩
      | 18, ho, hn =>
        simp only [List.getElem?_toArray, List.getElem?_cons_zero, List.getElem?_cons_succ, Option.some.injEq] at ho
        subst ho
        refine ⟨wanted_of (j := 15) (s := 47) (b := false) rfl rfl rfl (hF.slotK (i := 15) (s := 47) (v := .bool false) rfl (hdep ⟨15, .guard⟩ (by simp) rfl) rfl), ?_⟩
        have h1 : a.tmps[1]?.getD undef = .pointer (some ⟨q, 0, none⟩) := hF.baseK 1 rfl rfl
        exact owp_value (.pointer (some ⟨q, 0, none⟩)) (w' := W) (by clear hdep; go_simp) ⟨by simp [hl], hsz, hW, lb, (fun h => (hX79 (by rw [getD_set (by decide)] at h; exact h))), hF.putK 18 50 _ (by rw [hsz]; decide) rfl rfl⟩
      | 19, ho, hn =>
        simp only [List.getElem?_toArray, List.getElem?_cons_zero, List.getElem?_cons_succ, Option.some.injEq] at ho
        subst ho
        refine ⟨wanted_of (j := 15) (s := 47) (b := false) rfl rfl rfl (hF.slotK (i := 15) (s := 47) (v := .bool false) rfl (hdep ⟨15, .guard⟩ (by simp) rfl) rfl), ?_⟩
        have h50 := hF.slotK (i := 18) (s := 50) (v := .pointer (some ⟨q, 0, none⟩)) rfl (hdep ⟨18, .data⟩ (by simp) rfl) rfl
        refine owp_call (fn := 50) (args := #[.pointer (some ⟨q, 0, none⟩)]) (by clear hdep; go_simp) ?_
        refine (HRLF.out W (HB5.out.trans (hW.mono HB5.out.size))).mono ?_
        rintro e w' ⟨rfl, hb⟩
        exact ⟨_, rfl, by simp [hl], hsz, hW.trans (hb.mono hW.size), lb, (fun h => True.intro), hF.putK 19 51 _ (by rw [hsz]; decide) rfl rfl⟩
      | 20, ho, hn =>
        simp only [List.getElem?_toArray, List.getElem?_cons_zero, List.getElem?_cons_succ, Option.some.injEq] at ho
        subst ho
        refine ⟨wanted_of (j := 15) (s := 47) (b := false) rfl rfl rfl (hF.slotK (i := 15) (s := 47) (v := .bool false) rfl (hdep ⟨15, .guard⟩ (by simp) rfl) rfl), ?_⟩
        have h49 := hF.slotK (i := 17) (s := 49) (v := .int .i64 (LF : Int)) rfl (hdep ⟨17, .data⟩ (by simp) rfl) rfl
        have h51 := hF.slotK (i := 19) (s := 51) (v := .int .i64 (LF : Int)) rfl (hdep ⟨19, .data⟩ (by simp) rfl) rfl
        exact owp_value (.bool false) (w' := W) (by clear hdep; go_simp) ⟨by simp [hl], hsz, hW, lb, (fun h => (hX79 (by rw [getD_set (by decide)] at h; exact h))), hF.putK 20 52 _ (by rw [hsz]; decide) rfl rfl⟩
      | 21, ho, hn =>
        simp only [List.getElem?_toArray, List.getElem?_cons_zero, List.getElem?_cons_succ, Option.some.injEq] at ho
        subst ho
        refine ⟨rfl, ?_⟩
        have h47 := hF.slotK (i := 15) (s := 47) (v := .bool false) rfl (hdep ⟨15, .data⟩ (by simp) rfl) rfl
        have h52 := hF.slotK (i := 20) (s := 52) (v := .bool false) rfl (hdep ⟨20, .data⟩ (by simp) rfl) rfl
        exact owp_value (.bool false) (w' := W) (by clear hdep; go_simp) ⟨by simp [hl], hsz, hW, lb, (fun h => (hX79 (by rw [getD_set (by decide)] at h; exact h))), hF.putK 21 53 _ (by rw [hsz]; decide) rfl rfl⟩
      | 22, ho, hn =>
        simp only [List.getElem?_toArray, List.getElem?_cons_zero, List.getElem?_cons_succ, Option.some.injEq] at ho
        subst ho
        refine ⟨rfl, ?_⟩
        have h53 := hF.slotK (i := 21) (s := 53) (v := .bool false) rfl (hdep ⟨21, .data⟩ (by simp) rfl) rfl
        exact owp_value (.bool false) (w' := W) (by clear hdep; go_simp) ⟨by simp [hl], hsz, hW, lb, (fun h => (hX79 (by rw [getD_set (by decide)] at h; exact h))), hF.putK 22 54 _ (by rw [hsz]; decide) rfl rfl⟩
      | 23, ho, hn =>
        simp only [List.getElem?_toArray, List.getElem?_cons_zero, List.getElem?_cons_succ, Option.some.injEq] at ho
        subst ho
        refine ⟨wanted_of (j := 22) (s := 54) (b := false) rfl rfl rfl (hF.slotK (i := 22) (s := 54) (v := .bool false) rfl (hdep ⟨22, .guard⟩ (by simp) rfl) rfl), ?_⟩
        have h0 : a.tmps[0]?.getD undef = .pointer (some ⟨p, 0, none⟩) := hF.baseK 0 rfl rfl
        exact owp_value (.pointer (some ⟨p, 0, none⟩)) (w' := W) (by clear hdep; go_simp) ⟨by simp [hl], hsz, hW, lb, (fun h => (hX79 (by rw [getD_set (by decide)] at h; exact h))), hF.putK 23 55 _ (by rw [hsz]; decide) rfl rfl⟩
      | 24, ho, hn =>
        simp only [List.getElem?_toArray, List.getElem?_cons_zero, List.getElem?_cons_succ, Option.some.injEq] at ho
        subst ho
        refine ⟨wanted_of (j := 22) (s := 54) (b := false) rfl rfl rfl (hF.slotK (i := 22) (s := 54) (v := .bool false) rfl (hdep ⟨22, .guard⟩ (by simp) rfl) rfl), ?_⟩
        have h55 := hF.slotK (i := 23) (s := 55) (v := .pointer (some ⟨p, 0, none⟩)) rfl (hdep ⟨23, .data⟩ (by simp) rfl) rfl
        refine owp_call (fn := 21) (args := #[.pointer (some ⟨p, 0, none⟩)]) (by clear hdep; go_simp) ?_
        refine (HPEN.out W (HB5.out.trans (hW.mono HB5.out.size))).mono ?_
        rintro e w' ⟨rfl, hb⟩
        exact ⟨_, rfl, by simp [hl], hsz, hW.trans (hb.mono hW.size), lb, (fun h => True.intro), hF.putK 24 56 _ (by rw [hsz]; decide) rfl rfl⟩
      | 25, ho, hn =>
        simp only [List.getElem?_toArray, List.getElem?_cons_zero, List.getElem?_cons_succ, Option.some.injEq] at ho
        subst ho
        refine ⟨wanted_of (j := 22) (s := 54) (b := false) rfl rfl rfl (hF.slotK (i := 22) (s := 54) (v := .bool false) rfl (hdep ⟨22, .guard⟩ (by simp) rfl) rfl), ?_⟩
        have h10 : a.tmps[10]?.getD undef = .pointer (some ⟨b10, 0, none⟩) := hF.baseK 10 rfl rfl
        exact owp_value (.slice A NE c) (w' := W) (by clear hdep; go_simp) ⟨by simp [hl], hsz, hW, lb, (fun h => (hX79 (by rw [getD_set (by decide)] at h; exact h))), hF.putK 25 57 _ (by rw [hsz]; decide) rfl rfl⟩
      | 26, ho, hn =>
        simp only [List.getElem?_toArray, List.getElem?_cons_zero, List.getElem?_cons_succ, Option.some.injEq] at ho
        subst ho
        refine ⟨wanted_of (j := 22) (s := 54) (b := false) rfl rfl rfl (hF.slotK (i := 22) (s := 54) (v := .bool false) rfl (hdep ⟨22, .guard⟩ (by simp) rfl) rfl), ?_⟩
        have h57 := hF.slotK (i := 25) (s := 57) (v := .slice A NE c) rfl (hdep ⟨25, .data⟩ (by simp) rfl) rfl
        exact owp_value (.int .i64 (NE : Int)) (w' := W) (by clear hdep; go_simp) ⟨by simp [hl], hsz, hW, lb, (fun h => (hX79 (by rw [getD_set (by decide)] at h; exact h))), hF.putK 26 58 _ (by rw [hsz]; decide) rfl rfl⟩
      | 27, ho, hn =>
        simp only [List.getElem?_toArray, List.getElem?_cons_zero, List.getElem?_cons_succ, Option.some.injEq] at ho
        subst ho
        refine ⟨wanted_of (j := 22) (s := 54) (b := false) rfl rfl rfl (hF.slotK (i := 22) (s := 54) (v := .bool false) rfl (hdep ⟨22, .guard⟩ (by simp) rfl) rfl), ?_⟩
        have h56 := hF.slotK (i := 24) (s := 56) (v := .int .i64 (NE : Int)) rfl (hdep ⟨24, .data⟩ (by simp) rfl) rfl
        have h58 := hF.slotK (i := 26) (s := 58) (v := .int .i64 (NE : Int)) rfl (hdep ⟨26, .data⟩ (by simp) rfl) rfl
        exact owp_value (.bool false) (w' := W) (by clear hdep; go_simp) ⟨by simp [hl], hsz, hW, lb, (fun h => (hX79 (by rw [getD_set (by decide)] at h; exact h))), hF.putK 27 59 _ (by rw [hsz]; decide) rfl rfl⟩
      | 28, ho, hn =>
        simp only [List.getElem?_toArray, List.getElem?_cons_zero, List.getElem?_cons_succ, Option.some.injEq] at ho
        subst ho
        refine ⟨rfl, ?_⟩
        have h54 := hF.slotK (i := 22) (s := 54) (v := .bool false) rfl (hdep ⟨22, .data⟩ (by simp) rfl) rfl
        have h59 := hF.slotK (i := 27) (s := 59) (v := .bool false) rfl (hdep ⟨27, .data⟩ (by simp) rfl) rfl
        exact owp_value (.bool false) (w' := W) (by clear hdep; go_simp) ⟨by simp [hl], hsz, hW, lb, (fun h => (hX79 (by rw [getD_set (by decide)] at h; exact h))), hF.putK 28 60 _ (by rw [hsz]; decide) rfl rfl⟩
      | 29, ho, hn =>
        simp only [List.getElem?_toArray, List.getElem?_cons_zero, List.getElem?_cons_succ, Option.some.injEq] at ho
        subst ho
        refine ⟨rfl, ?_⟩
        have h60 := hF.slotK (i := 28) (s := 60) (v := .bool false) rfl (hdep ⟨28, .data⟩ (by simp) rfl) rfl
        exact owp_value (.bool false) (w' := W) (by clear hdep; go_simp) ⟨by simp [hl], hsz, hW, lb, (fun h => (hX79 (by rw [getD_set (by decide)] at h; exact h))), hF.putK 29 61 _ (by rw [hsz]; decide) rfl rfl⟩
      | 30, ho, hn =>
        simp only [List.getElem?_toArray, List.getElem?_cons_zero, List.getElem?_cons_succ, Option.some.injEq] at ho
        subst ho
        refine ⟨wanted_of (j := 29) (s := 61) (b := false) rfl rfl rfl (hF.slotK (i := 29) (s := 61) (v := .bool false) rfl (hdep ⟨29, .guard⟩ (by simp) rfl) rfl), ?_⟩
        have h0 : a.tmps[0]?.getD undef = .pointer (some ⟨p, 0, none⟩) := hF.baseK 0 rfl rfl
        exact owp_value (.pointer (some ⟨p, 0, none⟩)) (w' := W) (by clear hdep; go_simp) ⟨by simp [hl], hsz, hW, lb, (fun h => (hX79 (by rw [getD_set (by decide)] at h; exact h))), hF.putK 30 62 _ (by rw [hsz]; decide) rfl rfl⟩
      | 31, ho, hn =>
        simp only [List.getElem?_toArray, List.getElem?_cons_zero, List.getElem?_cons_succ, Option.some.injEq] at ho
        subst ho
        refine ⟨wanted_of (j := 29) (s := 61) (b := false) rfl rfl rfl (hF.slotK (i := 29) (s := 61) (v := .bool false) rfl (hdep ⟨29, .guard⟩ (by simp) rfl) rfl), ?_⟩
        have h62 := hF.slotK (i := 30) (s := 62) (v := .pointer (some ⟨p, 0, none⟩)) rfl (hdep ⟨30, .data⟩ (by simp) rfl) rfl
        refine owp_call (fn := 23) (args := #[.pointer (some ⟨p, 0, none⟩)]) (by clear hdep; go_simp) ?_
        refine (HPMK.out W (HB5.out.trans (hW.mono HB5.out.size))).mono ?_
        rintro e w' ⟨rfl, hb⟩
        exact ⟨_, rfl, by simp [hl], hsz, hW.trans (hb.mono hW.size), lb, (fun h => True.intro), hF.putK 31 63 _ (by rw [hsz]; decide) rfl rfl⟩
      | 32, ho, hn =>
        simp only [List.getElem?_toArray, List.getElem?_cons_zero, List.getElem?_cons_succ, Option.some.injEq] at ho
        subst ho
        refine ⟨wanted_of (j := 29) (s := 61) (b := false) rfl rfl rfl (hF.slotK (i := 29) (s := 61) (v := .bool false) rfl (hdep ⟨29, .guard⟩ (by simp) rfl) rfl), ?_⟩
        have h1 : a.tmps[1]?.getD undef = .pointer (some ⟨q, 0, none⟩) := hF.baseK 1 rfl rfl
        exact owp_value (.pointer (some ⟨q, 0, none⟩)) (w' := W) (by clear hdep; go_simp) ⟨by simp [hl], hsz, hW, lb, (fun h => (hX79 (by rw [getD_set (by decide)] at h; exact h))), hF.putK 32 64 _ (by rw [hsz]; decide) rfl rfl⟩
      | 33, ho, hn =>
        simp only [List.getElem?_toArray, List.getElem?_cons_zero, List.getElem?_cons_succ, Option.some.injEq] at ho
        subst ho
        refine ⟨wanted_of (j := 29) (s := 61) (b := false) rfl rfl rfl (hF.slotK (i := 29) (s := 61) (v := .bool false) rfl (hdep ⟨29, .guard⟩ (by simp) rfl) rfl), ?_⟩
        have h64 := hF.slotK (i := 32) (s := 64) (v := .pointer (some ⟨q, 0, none⟩)) rfl (hdep ⟨32, .data⟩ (by simp) rfl) rfl
        refine owp_call (fn := 51) (args := #[.pointer (some ⟨q, 0, none⟩)]) (by clear hdep; go_simp) ?_
        refine (HRMK.out W (HB5.out.trans (hW.mono HB5.out.size))).mono ?_
        rintro e w' ⟨rfl, hb⟩
        exact ⟨_, rfl, by simp [hl], hsz, hW.trans (hb.mono hW.size), lb, (fun h => True.intro), hF.putK 33 65 _ (by rw [hsz]; decide) rfl rfl⟩
      | 34, ho, hn =>
        simp only [List.getElem?_toArray, List.getElem?_cons_zero, List.getElem?_cons_succ, Option.some.injEq] at ho
        subst ho
        refine ⟨wanted_of (j := 29) (s := 61) (b := false) rfl rfl rfl (hF.slotK (i := 29) (s := 61) (v := .bool false) rfl (hdep ⟨29, .guard⟩ (by simp) rfl) rfl), ?_⟩
        have h63 := hF.slotK (i := 31) (s := 63) (v := .int .i64 (NM : Int)) rfl (hdep ⟨31, .data⟩ (by simp) rfl) rfl
        have h65 := hF.slotK (i := 33) (s := 65) (v := .int .i64 (NM : Int)) rfl (hdep ⟨33, .data⟩ (by simp) rfl) rfl
        exact owp_value (.bool false) (w' := W) (by clear hdep; go_simp) ⟨by simp [hl], hsz, hW, lb, (fun h => (hX79 (by rw [getD_set (by decide)] at h; exact h))), hF.putK 34 66 _ (by rw [hsz]; decide) rfl rfl⟩
      | 35, ho, hn =>
        simp only [List.getElem?_toArray, List.getElem?_cons_zero, List.getElem?_cons_succ, Option.some.injEq] at ho
        subst ho
        refine ⟨rfl, ?_⟩
        have h61 := hF.slotK (i := 29) (s := 61) (v := .bool false) rfl (hdep ⟨29, .data⟩ (by simp) rfl) rfl
        have h66 := hF.slotK (i := 34) (s := 66) (v := .bool false) rfl (hdep ⟨34, .data⟩ (by simp) rfl) rfl
        exact owp_value (.bool false) (w' := W) (by clear hdep; go_simp) ⟨by simp [hl], hsz, hW, lb, (fun h => (hX79 (by rw [getD_set (by decide)] at h; exact h))), hF.putK 35 67 _ (by rw [hsz]; decide) rfl rfl⟩
      | 36, ho, hn =>
        simp only [List.getElem?_toArray, List.getElem?_cons_zero, List.getElem?_cons_succ, Option.some.injEq] at ho
        subst ho
        refine ⟨rfl, ?_⟩
        have h67 := hF.slotK (i := 35) (s := 67) (v := .bool false) rfl (hdep ⟨35, .data⟩ (by simp) rfl) rfl
        exact owp_value (.bool false) (w' := W) (by clear hdep; go_simp) ⟨by simp [hl], hsz, hW, lb, (fun h => (hX79 (by rw [getD_set (by decide)] at h; exact h))), hF.putK 36 68 _ (by rw [hsz]; decide) rfl rfl⟩
      | 37, ho, hn =>
        simp only [List.getElem?_toArray, List.getElem?_cons_zero, List.getElem?_cons_succ, Option.some.injEq] at ho
        subst ho
        refine ⟨wanted_of (j := 36) (s := 68) (b := false) rfl rfl rfl (hF.slotK (i := 36) (s := 68) (v := .bool false) rfl (hdep ⟨36, .guard⟩ (by simp) rfl) rfl), ?_⟩
        have h0 : a.tmps[0]?.getD undef = .pointer (some ⟨p, 0, none⟩) := hF.baseK 0 rfl rfl
        exact owp_value (.pointer (some ⟨p, 0, none⟩)) (w' := W) (by clear hdep; go_simp) ⟨by simp [hl], hsz, hW, lb, (fun h => (hX79 (by rw [getD_set (by decide)] at h; exact h))), hF.putK 37 69 _ (by rw [hsz]; decide) rfl rfl⟩
      | 38, ho, hn =>
        simp only [List.getElem?_toArray, List.getElem?_cons_zero, List.getElem?_cons_succ, Option.some.injEq] at ho
        subst ho
        refine ⟨wanted_of (j := 36) (s := 68) (b := false) rfl rfl rfl (hF.slotK (i := 36) (s := 68) (v := .bool false) rfl (hdep ⟨36, .guard⟩ (by simp) rfl) rfl), ?_⟩
        have h5 : a.tmps[5]?.getD undef = .pointer (some ⟨b5, 0, none⟩) := hF.baseK 5 rfl rfl
        have hld := run_loadVar_row W b5 34 34 #[.int .u64 (H : Int), .int .u32 (X : Int)] (0, 0) _ hx5 Try.underlying34 rfl (by kernel_rfl)
        refine owp_value (.agg #[.int .u64 (H : Int), .int .u32 (X : Int)]) (w' := W) ?_ ⟨by simp [hl], hsz, hW, lb, (fun h => (hX79 (by rw [getD_set (by decide)] at h; exact h))), hF.putK 38 70 _ (by rw [hsz]; decide) rfl rfl⟩
        clear hdep
        simp only [execOp, Act.eval, Array.getD_eq_getD_getElem?, h5, Instr.loadAt, Instr.sureAddr, Sem.run_bind, Sem.run_pure, Result.andThen_ok, hld]
        all_goals rfl
      | 39, ho, hn =>
        simp only [List.getElem?_toArray, List.getElem?_cons_zero, List.getElem?_cons_succ, Option.some.injEq] at ho
        subst ho
        refine ⟨wanted_of (j := 36) (s := 68) (b := false) rfl rfl rfl (hF.slotK (i := 36) (s := 68) (v := .bool false) rfl (hdep ⟨36, .guard⟩ (by simp) rfl) rfl), ?_⟩
        have h69 := hF.slotK (i := 37) (s := 69) (v := .pointer (some ⟨p, 0, none⟩)) rfl (hdep ⟨37, .data⟩ (by simp) rfl) rfl
        have h70 := hF.slotK (i := 38) (s := 70) (v := .agg #[.int .u64 (H : Int), .int .u32 (X : Int)]) rfl (hdep ⟨38, .data⟩ (by simp) rfl) rfl
        refine owp_call (fn := 20) (args := #[.pointer (some ⟨p, 0, none⟩), .agg #[.int .u64 (H : Int), .int .u32 (X : Int)]]) (by clear hdep; go_simp) ?_
        refine (HPHA.out W (HB5.out.trans (hW.mono HB5.out.size))).mono ?_
        rintro e w' ⟨rfl, hb⟩
        exact ⟨_, rfl, by simp [hl], hsz, hW.trans (hb.mono hW.size), lb, (fun h => True.intro), hF.putK 39 71 _ (by rw [hsz]; decide) rfl rfl⟩
      | 40, ho, hn =>
        simp only [List.getElem?_toArray, List.getElem?_cons_zero, List.getElem?_cons_succ, Option.some.injEq] at ho
        subst ho
        refine ⟨wanted_of (j := 36) (s := 68) (b := false) rfl rfl rfl (hF.slotK (i := 36) (s := 68) (v := .bool false) rfl (hdep ⟨36, .guard⟩ (by simp) rfl) rfl), ?_⟩
        have h1 : a.tmps[1]?.getD undef = .pointer (some ⟨q, 0, none⟩) := hF.baseK 1 rfl rfl
        exact owp_value (.pointer (some ⟨q, 0, none⟩)) (w' := W) (by clear hdep; go_simp) ⟨by simp [hl], hsz, hW, lb, (fun h => (hX79 (by rw [getD_set (by decide)] at h; exact h))), hF.putK 40 72 _ (by rw [hsz]; decide) rfl rfl⟩
      | 41, ho, hn =>
        simp only [List.getElem?_toArray, List.getElem?_cons_zero, List.getElem?_cons_succ, Option.some.injEq] at ho
        subst ho
        refine ⟨wanted_of (j := 36) (s := 68) (b := false) rfl rfl rfl (hF.slotK (i := 36) (s := 68) (v := .bool false) rfl (hdep ⟨36, .guard⟩ (by simp) rfl) rfl), ?_⟩
        have h5 : a.tmps[5]?.getD undef = .pointer (some ⟨b5, 0, none⟩) := hF.baseK 5 rfl rfl
        have hld := run_loadVar_row W b5 34 34 #[.int .u64 (H : Int), .int .u32 (X : Int)] (0, 0) _ hx5 Try.underlying34 rfl (by kernel_rfl)
        refine owp_value (.agg #[.int .u64 (H : Int), .int .u32 (X : Int)]) (w' := W) ?_ ⟨by simp [hl], hsz, hW, lb, (fun h => (hX79 (by rw [getD_set (by decide)] at h; exact h))), hF.putK 41 73 _ (by rw [hsz]; decide) rfl rfl⟩
        clear hdep
        simp only [execOp, Act.eval, Array.getD_eq_getD_getElem?, h5, Instr.loadAt, Instr.sureAddr, Sem.run_bind, Sem.run_pure, Result.andThen_ok, hld]
        all_goals rfl
      | 42, ho, hn =>
        simp only [List.getElem?_toArray, List.getElem?_cons_zero, List.getElem?_cons_succ, Option.some.injEq] at ho
        subst ho
        refine ⟨wanted_of (j := 36) (s := 68) (b := false) rfl rfl rfl (hF.slotK (i := 36) (s := 68) (v := .bool false) rfl (hdep ⟨36, .guard⟩ (by simp) rfl) rfl), ?_⟩
        have h72 := hF.slotK (i := 40) (s := 72) (v := .pointer (some ⟨q, 0, none⟩)) rfl (hdep ⟨40, .data⟩ (by simp) rfl) rfl
        have h73 := hF.slotK (i := 41) (s := 73) (v := .agg #[.int .u64 (H : Int), .int .u32 (X : Int)]) rfl (hdep ⟨41, .data⟩ (by simp) rfl) rfl
        refine owp_call (fn := 52) (args := #[.pointer (some ⟨q, 0, none⟩), .agg #[.int .u64 (H : Int), .int .u32 (X : Int)]]) (by clear hdep; go_simp) ?_
        refine (HRHA.out W (HB5.out.trans (hW.mono HB5.out.size))).mono ?_
        rintro e w' ⟨rfl, hb⟩
        exact ⟨_, rfl, by simp [hl], hsz, hW.trans (hb.mono hW.size), lb, (fun h => True.intro), hF.putK 42 74 _ (by rw [hsz]; decide) rfl rfl⟩
      | 43, ho, hn =>
        simp only [List.getElem?_toArray, List.getElem?_cons_zero, List.getElem?_cons_succ, Option.some.injEq] at ho
        subst ho
        refine ⟨wanted_of (j := 36) (s := 68) (b := false) rfl rfl rfl (hF.slotK (i := 36) (s := 68) (v := .bool false) rfl (hdep ⟨36, .guard⟩ (by simp) rfl) rfl), ?_⟩
        have h71 := hF.slotK (i := 39) (s := 71) (v := .bool hh) rfl (hdep ⟨39, .data⟩ (by simp) rfl) rfl
        have h74 := hF.slotK (i := 42) (s := 74) (v := .bool hh) rfl (hdep ⟨42, .data⟩ (by simp) rfl) rfl
        exact owp_value (.bool false) (w' := W) (by clear hdep; go_simp) ⟨by simp [hl], hsz, hW, lb, (fun h => (hX79 (by rw [getD_set (by decide)] at h; exact h))), hF.putK 43 75 _ (by rw [hsz]; decide) rfl rfl⟩
      | 44, ho, hn =>
        simp only [List.getElem?_toArray, List.getElem?_cons_zero, List.getElem?_cons_succ, Option.some.injEq] at ho
        subst ho
        refine ⟨rfl, ?_⟩
        have h68 := hF.slotK (i := 36) (s := 68) (v := .bool false) rfl (hdep ⟨36, .data⟩ (by simp) rfl) rfl
        have h75 := hF.slotK (i := 43) (s := 75) (v := .bool false) rfl (hdep ⟨43, .data⟩ (by simp) rfl) rfl
        exact owp_value (.bool false) (w' := W) (by clear hdep; go_simp) ⟨by simp [hl], hsz, hW, lb, (fun h => (hX79 (by rw [getD_set (by decide)] at h; exact h))), hF.putK 44 76 _ (by rw [hsz]; decide) rfl rfl⟩
      | 45, ho, hn =>
        simp only [List.getElem?_toArray, List.getElem?_cons_zero, List.getElem?_cons_succ, Option.some.injEq] at ho
        subst ho
        refine ⟨rfl, ?_⟩
        have h76 := hF.slotK (i := 44) (s := 76) (v := .bool false) rfl (hdep ⟨44, .data⟩ (by simp) rfl) rfl
        exact owp_value (.bool false) (w' := W) (by clear hdep; go_simp) ⟨by simp [hl], hsz, hW, lb, (fun h => (hX79 (by rw [getD_set (by decide)] at h; exact h))), hF.putK 45 77 _ (by rw [hsz]; decide) rfl rfl⟩
      | 46, ho, hn =>
        simp only [List.getElem?_toArray, List.getElem?_cons_zero, List.getElem?_cons_succ, Option.some.injEq] at ho
        subst ho
        refine ⟨wanted_of (j := 45) (s := 77) (b := false) rfl rfl rfl (hF.slotK (i := 45) (s := 77) (v := .bool false) rfl (hdep ⟨45, .guard⟩ (by simp) rfl) rfl), ?_⟩
        have h0 : a.tmps[0]?.getD undef = .pointer (some ⟨p, 0, none⟩) := hF.baseK 0 rfl rfl
        exact owp_value (.pointer (some ⟨p, 0, none⟩)) (w' := W) (by clear hdep; go_simp) ⟨by simp [hl], hsz, hW, lb, (fun h => (hX79 (by rw [getD_set (by decide)] at h; exact h))), hF.putK 46 78 _ (by rw [hsz]; decide) rfl rfl⟩
      | 47, ho, hn =>
        simp only [List.getElem?_toArray, List.getElem?_cons_zero, List.getElem?_cons_succ, Option.some.injEq] at ho
        subst ho
        refine ⟨wanted_of (j := 45) (s := 77) (b := false) rfl rfl rfl (hF.slotK (i := 45) (s := 77) (v := .bool false) rfl (hdep ⟨45, .guard⟩ (by simp) rfl) rfl), ?_⟩
        have h78 := hF.slotK (i := 46) (s := 78) (v := .pointer (some ⟨p, 0, none⟩)) rfl (hdep ⟨46, .data⟩ (by simp) rfl) rfl
        refine owp_call (fn := 24) (args := #[.pointer (some ⟨p, 0, none⟩)]) (by clear hdep; go_simp) ?_
        refine (HPAL.out W (HB5.out.trans (hW.mono HB5.out.size))).mono ?_
        rintro e w' ⟨lb9, Fi, rfl, hb, _, _⟩
        have hnew := True.intro
        have hF2 := hF.swapQ (V' := (fun i => ([.int .i64 (NN : Int), .pointer (some ⟨q, 0, none⟩), .pointer (some ⟨q, 0, none⟩), .pointer (some ⟨q, 0, none⟩), .pointer (some ⟨qn, 0, none⟩), .pointer (some ⟨qn, 0, none⟩), .pointer (some ⟨qn, 2, none⟩), .slice AE NN cE, .int .i64 (NN : Int), .bool false, .bool false, .int .i64 0, .int .i64 0, .bool false, .bool false, .bool false, .pointer (some ⟨p, 0, none⟩), .int .i64 (LF : Int), .pointer (some ⟨q, 0, none⟩), .int .i64 (LF : Int), .bool false, .bool false, .bool false, .pointer (some ⟨p, 0, none⟩), .int .i64 (NE : Int), .slice A NE c, .int .i64 (NE : Int), .bool false, .bool false, .bool false, .pointer (some ⟨p, 0, none⟩), .int .i64 (NM : Int), .pointer (some ⟨q, 0, none⟩), .int .i64 (NM : Int), .bool false, .bool false, .bool false, .pointer (some ⟨p, 0, none⟩), .agg #[.int .u64 (H : Int), .int .u32 (X : Int)], .bool hh, .pointer (some ⟨q, 0, none⟩), .agg #[.int .u64 (H : Int), .int .u32 (X : Int)], .bool hh, .bool false, .bool false, .bool false, .pointer (some ⟨p, 0, none⟩), .func (.func g) #[] lb9, .bool false, .bool false][i]?).getD undef)) 47 hn (fun q hq => by
          match q with
          | 0 => rfl
          | 1 => rfl
          | 2 => rfl
          | 3 => rfl
          | 4 => rfl
          | 5 => rfl
          | 6 => rfl
          | 7 => rfl
          | 8 => rfl
          | 9 => rfl
          | 10 => rfl
          | 11 => rfl
          | 12 => rfl
          | 13 => rfl
          | 14 => rfl
          | 15 => rfl
          | 16 => rfl
          | 17 => rfl
          | 18 => rfl
          | 19 => rfl
          | 20 => rfl
          | 21 => rfl
          | 22 => rfl
          | 23 => rfl
          | 24 => rfl
          | 25 => rfl
          | 26 => rfl
          | 27 => rfl
          | 28 => rfl
          | 29 => rfl
          | 30 => rfl
          | 31 => rfl
          | 32 => rfl
          | 33 => rfl
          | 34 => rfl
          | 35 => rfl
          | 36 => rfl
          | 37 => rfl
          | 38 => rfl
          | 39 => rfl
          | 40 => rfl
          | 41 => rfl
          | 42 => rfl
          | 43 => rfl
          | 44 => rfl
          | 45 => rfl
          | 46 => rfl
          | 47 => exact absurd rfl hq
          | 48 => rfl
          | 49 => rfl
          | q + 50 => rfl)
        exact ⟨_, rfl, by simp [hl], hsz, hW.trans (hb.mono hW.size), lb9, (fun _ => hnew), hF2.putK 47 79 _ (by rw [hsz]; decide) rfl rfl⟩
      | 48, ho, hn =>
        simp only [List.getElem?_toArray, List.getElem?_cons_zero, List.getElem?_cons_succ, Option.some.injEq] at ho
        subst ho
        refine ⟨wanted_of (j := 45) (s := 77) (b := false) rfl rfl rfl (hF.slotK (i := 45) (s := 77) (v := .bool false) rfl (hdep ⟨45, .guard⟩ (by simp) rfl) rfl), ?_⟩
        have h79 := hF.slotK (i := 47) (s := 79) (v := .func (.func g) #[] lb) rfl (hdep ⟨47, .data⟩ (by simp) rfl) rfl
        exact owp_value (.bool false) (w' := W) (by clear hdep; go_simp) ⟨by simp [hl], hsz, hW, lb, (fun h => (hX79 (by rw [getD_set (by decide)] at h; exact h))), hF.putK 48 80 _ (by rw [hsz]; decide) rfl rfl⟩
      | 49, ho, hn =>
        simp only [List.getElem?_toArray, List.getElem?_cons_zero, List.getElem?_cons_succ, Option.some.injEq] at ho
        subst ho
        refine ⟨rfl, ?_⟩
        have h77 := hF.slotK (i := 45) (s := 77) (v := .bool false) rfl (hdep ⟨45, .data⟩ (by simp) rfl) rfl
        have h80 := hF.slotK (i := 48) (s := 80) (v := .bool false) rfl (hdep ⟨48, .data⟩ (by simp) rfl) rfl
        exact owp_value (.bool false) (w' := W) (by clear hdep; go_simp) ⟨by simp [hl], hsz, hW, lb, (fun h => (hX79 (by rw [getD_set (by decide)] at h; exact h))), hF.putK 49 81 _ (by rw [hsz]; decide) rfl rfl⟩
      | i5 + 50, ho, hn => simp at ho
    · intro l a W1 hI hall
      obtain ⟨_, _, hW1, lb, hX79, hF⟩ := hI
      have hall : ∀ i, i < 50 → l.getD i false = true := hall
      have ha := FrU.allQ (K := ([(0, 32), (1, 33), (2, 34), (3, 35), (4, 36), (5, 37), (6, 38), (7, 39), (8, 40), (9, 41), (10, 42), (11, 43), (12, 44), (13, 45), (14, 46), (15, 47), (16, 48), (17, 49), (18, 50), (19, 51), (20, 52), (21, 53), (22, 54), (23, 55), (24, 56), (25, 57), (26, 58), (27, 59), (28, 60), (29, 61), (30, 62), (31, 63), (32, 64), (33, 65), (34, 66), (35, 67), (36, 68), (37, 69), (38, 70), (39, 71), (40, 72), (41, 73), (42, 74), (43, 75), (44, 76), (45, 77), (46, 78), (47, 79), (48, 80), (49, 81)] : List (Nat × Nat))) (V := (fun i => ([.int .i64 (NN : Int), .pointer (some ⟨q, 0, none⟩), .pointer (some ⟨q, 0, none⟩), .pointer (some ⟨q, 0, none⟩), .pointer (some ⟨qn, 0, none⟩), .pointer (some ⟨qn, 0, none⟩), .pointer (some ⟨qn, 2, none⟩), .slice AE NN cE, .int .i64 (NN : Int), .bool false, .bool false, .int .i64 0, .int .i64 0, .bool false, .bool false, .bool false, .pointer (some ⟨p, 0, none⟩), .int .i64 (LF : Int), .pointer (some ⟨q, 0, none⟩), .int .i64 (LF : Int), .bool false, .bool false, .bool false, .pointer (some ⟨p, 0, none⟩), .int .i64 (NE : Int), .slice A NE c, .int .i64 (NE : Int), .bool false, .bool false, .bool false, .pointer (some ⟨p, 0, none⟩), .int .i64 (NM : Int), .pointer (some ⟨q, 0, none⟩), .int .i64 (NM : Int), .bool false, .bool false, .bool false, .pointer (some ⟨p, 0, none⟩), .agg #[.int .u64 (H : Int), .int .u32 (X : Int)], .bool hh, .pointer (some ⟨q, 0, none⟩), .agg #[.int .u64 (H : Int), .int .u32 (X : Int)], .bool hh, .bool false, .bool false, .bool false, .pointer (some ⟨p, 0, none⟩), .func (.func g) #[] lb, .bool false, .bool false][i]?).getD undef)) (BL := ([(0, 32, .int .i64 (NN : Int)), (1, 33, .pointer (some ⟨q, 0, none⟩)), (2, 34, .pointer (some ⟨q, 0, none⟩)), (3, 35, .pointer (some ⟨q, 0, none⟩)), (4, 36, .pointer (some ⟨qn, 0, none⟩)), (5, 37, .pointer (some ⟨qn, 0, none⟩)), (6, 38, .pointer (some ⟨qn, 2, none⟩)), (7, 39, .slice AE NN cE), (8, 40, .int .i64 (NN : Int)), (9, 41, .bool false), (10, 42, .bool false), (11, 43, .int .i64 0), (12, 44, .int .i64 0), (13, 45, .bool false), (14, 46, .bool false), (15, 47, .bool false), (16, 48, .pointer (some ⟨p, 0, none⟩)), (17, 49, .int .i64 (LF : Int)), (18, 50, .pointer (some ⟨q, 0, none⟩)), (19, 51, .int .i64 (LF : Int)), (20, 52, .bool false), (21, 53, .bool false), (22, 54, .bool false), (23, 55, .pointer (some ⟨p, 0, none⟩)), (24, 56, .int .i64 (NE : Int)), (25, 57, .slice A NE c), (26, 58, .int .i64 (NE : Int)), (27, 59, .bool false), (28, 60, .bool false), (29, 61, .bool false), (30, 62, .pointer (some ⟨p, 0, none⟩)), (31, 63, .int .i64 (NM : Int)), (32, 64, .pointer (some ⟨q, 0, none⟩)), (33, 65, .int .i64 (NM : Int)), (34, 66, .bool false), (35, 67, .bool false), (36, 68, .bool false), (37, 69, .pointer (some ⟨p, 0, none⟩)), (38, 70, .agg #[.int .u64 (H : Int), .int .u32 (X : Int)]), (39, 71, .bool hh), (40, 72, .pointer (some ⟨q, 0, none⟩)), (41, 73, .agg #[.int .u64 (H : Int), .int .u32 (X : Int)]), (42, 74, .bool hh), (43, 75, .bool false), (44, 76, .bool false), (45, 77, .bool false), (46, 78, .pointer (some ⟨p, 0, none⟩)), (47, 79, .func (.func g) #[] lb), (48, 80, .bool false), (49, 81, .bool false)] : List (Nat × Nat × Value))) hF rfl (n := 50) hall rfl
      subst ha
      have HW1 := Lib.hid hW1
      have HX79 := Lib.hid (hX79 (hall 47 (by decide)))
      clear hF hall hW1 hX79
      refine hKc _ _ ?_
      simp only [setAll, List.setIfInBounds_toArray, List.set_cons_succ, List.set_cons_zero]
      have HB6 := Lib.hid (HB5.out.trans (HW1.out.mono HB5.out.size))
      have HRD6 := Lib.hid (HRD5.out.keep (HW1.out.mono HU5.out))
      have HU6 : Hid (b10 ≤ W1.heap.size) := Lib.hid (Nat.le_trans HU5.out HW1.out.size)
      have HY6 : Hid (W1.heap[b6]? = some (.cells #[.bool false] 4 (0, 0))) := Lib.hid ((HW1.out.block b6 (lt_heap HX6.out)).trans HX6.out)
      have HY10 : Hid (W1.heap[b10]? = some (.cells #[.slice A NE c] 67 (0, 0))) := Lib.hid ((HW1.out.block b10 (lt_heap HX10.out)).trans HX10.out)
      have HY11 : Hid (W1.heap[b11]? = some (.cells #[.int .i64 0] 3 (0, 0))) := Lib.hid ((HW1.out.block b11 (lt_heap HX11.out)).trans HX11.out)
      clear HW1 HX5 HX6 HX10 HX11 HQ5 HX79 HRD5 HU5
      generalize W1 = u6 at *
      go_wp2_with (first
        | (go_at_call 24
           refine (HPAL.out u6 HB6.out).mono ?_
           rintro e u7 ⟨lb6, Fi, rfl, hb, hFi, hst⟩
           have HB7 := Lib.hid (HB6.out.trans (hb.mono HB6.out.size))
           have HRD7 := Lib.hid (HRD6.out.keep (hb.mono HU6.out))
           have HZ6 : Hid (u7.heap[b6]? = some (.cells #[.bool false] 4 (0, 0))) := Lib.hid ((hb.block b6 (lt_heap HY6.out)).trans HY6.out)
           have HZ10 : Hid (u7.heap[b10]? = some (.cells #[.slice A NE c] 67 (0, 0))) := Lib.hid ((hb.block b10 (lt_heap HY10.out)).trans HY10.out)
           have HZ11 : Hid (u7.heap[b11]? = some (.cells #[.int .i64 0] 3 (0, 0))) := Lib.hid ((hb.block b11 (lt_heap HY11.out)).trans HY11.out)
           have HFi := Lib.hid hFi
           have HST := Lib.hid hst
           have HB67 := Lib.hid hb.size
           have HBL11 := Lib.hid (lt_heap HY11.out)
           clear hb hFi hst HY6 HY10 HY11 HRD6))
      have hRo : ∀ k, k = b11 → k < u7.heap.size := fun k e => by rw [e]; exact lt_heap HZ11.out
      have hRb : ∀ k, Fi k → ¬ (k = b11) := fun k hk hr => by
        obtain ⟨h1, h2⟩ := HFi.out k hk
        have h3 := HBL11.out
        have h4 := HFO.out
        have h5 := H611.out
        rcases h2 with h2 | h2
        · have := h4 k h2
          omega
        · omega
      refine wpIn_wide (n := 13).1 ?_
      refine wpIn_rangeFunc_Q rfl (by omega) (gf := g) (lb := lb6) rfl trivial eg (HST.out (fun k => k = b11) hRb hRo) (Below.refl _ _) (fun _ => rfl) keptC_t keptC_b
        (fun pre W => Boxed W b11 3 (.int .i64 (pre.length : Int)) ∧ Kept (fun k => k = b11) u7 W)
        (fun _ _ _ => False)
        (OwnFrom.and (Own.from (boxed_own b11 3 (fun pre : List (Nat × Nat) => Value.int .i64 (pre.length : Int))) _) (ownFrom_kept (Nat.le_refl _)))
        (fun _ _ _ _ _ hs _ _ => hs)
        ⟨HZ11.out, Kept.refl _ _⟩
        (fun pre x a' W => (Boxed W b11 3 (.int .i64 (pre.length : Int)) ∧ Kept (fun k => k = b11) u7 W) ∧ ∃ Bx, u7.heap.size ≤ Bx ∧ W.heap[Bx]? = some (.cells #[.int .u64 (x.1 : Int), .int .u32 (x.2 : Int)] 34 (0, 0)) ∧ a' = { tmps := #[.pointer (some ⟨p, 0, none⟩), .pointer (some ⟨q, 0, none⟩), .agg #[.int .u64 (H : Int), .int .u32 (X : Int)], undef, undef, .pointer (some ⟨b5, 0, none⟩), .pointer (some ⟨b6, 0, none⟩), .int .i64 (NN : Int), .int .i64 0, .int .i64 0, .pointer (some ⟨b10, 0, none⟩), .pointer (some ⟨b11, 0, none⟩), .pointer (some ⟨Bx, 0, none⟩), .tuple #[.int .i64 (NN : Int), .int .i64 0], .pointer (some ⟨p, 0, none⟩), .tuple #[.int .i64 (NN : Int), .int .i64 0], .int .i64 (NN : Int), .int .i64 0, .pointer (some ⟨q, 0, none⟩), .pointer (some ⟨q, 0, none⟩), .pointer (some ⟨q, 2, none⟩), .bool false, undef, undef, undef, undef, undef, undef, undef, undef, .pointer (some ⟨q, 0, none⟩), .slice A NE c, .int .i64 (NN : Int), .pointer (some ⟨q, 0, none⟩), .pointer (some ⟨q, 0, none⟩), .pointer (some ⟨q, 0, none⟩), .pointer (some ⟨qn, 0, none⟩), .pointer (some ⟨qn, 0, none⟩), .pointer (some ⟨qn, 2, none⟩), .slice AE NN cE, .int .i64 (NN : Int), .bool false, .bool false, .int .i64 0, .int .i64 0, .bool false, .bool false, .bool false, .pointer (some ⟨p, 0, none⟩), .int .i64 (LF : Int), .pointer (some ⟨q, 0, none⟩), .int .i64 (LF : Int), .bool false, .bool false, .bool false, .pointer (some ⟨p, 0, none⟩), .int .i64 (NE : Int), .slice A NE c, .int .i64 (NE : Int), .bool false, .bool false, .bool false, .pointer (some ⟨p, 0, none⟩), .int .i64 (NM : Int), .pointer (some ⟨q, 0, none⟩), .int .i64 (NM : Int), .bool false, .bool false, .bool false, .pointer (some ⟨p, 0, none⟩), .agg #[.int .u64 (H : Int), .int .u32 (X : Int)], .bool hh, .pointer (some ⟨q, 0, none⟩), .agg #[.int .u64 (H : Int), .int .u32 (X : Int)], .bool hh, .bool false, .bool false, .bool false, .pointer (some ⟨p, 0, none⟩), .func (.func g) #[] lb, .bool false, .bool false, .pointer (some ⟨p, 0, none⟩), .func (.func g) #[] lb6, .agg #[.int .u64 (x.1 : Int), .int .u32 (x.2 : Int)], undef, undef, undef, undef, undef, undef, undef, undef, undef, undef, undef, undef, undef, undef, undef, undef, undef, undef], defers := [] })
        (fun pre x a' _ X Y row hs hg hr => by obtain ⟨h0, Bx, h1, h2, h3⟩ := hs; exact ⟨(OwnFrom.and (Own.from (boxed_own b11 3 (fun pre : List (Nat × Nat) => Value.int .i64 (pre.length : Int))) _) (ownFrom_kept (Nat.le_refl _))) pre X Y row h0 hg hr, Bx, h1, (grownBy_keeps_cells hg (fun r e => (hr r e).2) h2 rfl).trans h2, h3⟩)
        ?assign ?body ?done ?stop
      case assign =>
        rintro l pre x W ⟨hb1, hk1⟩ hpre
        unfold gEnc
        gi_wp2
        exact ⟨(KeepsOthers.alloc _ _).from _, KeptC.of_kept ((Kept.refl _ W).alloc _), ⟨hb1.alloc _, hk1.alloc _⟩, W.heap.size, hk1.size, heap_alloc_new W _, rfl⟩
      case body =>
        rintro l pre x a' W hpre ⟨⟨bN, hk1⟩, Bx, hBx, bX, rfl⟩
        have hlt : pre.length < s.all.length := by have := hpre.length_le; rw [List.length_append] at this; simp at this; omega
        obtain ⟨hb611, hb610, hwb⟩ := H611.out
        have hlt10 := lt_heap HZ10.out
        have hlt11 := lt_heap HZ11.out
        have hsz1 := hk1.size
        have HLT : Hid (pre.length < NE) := Lib.hid (by rw [HNE.out]; exact hlt)
        have hlen := HLT.out
        obtain ⟨y, hyx, hat⟩ : ∃ y, y = x ∧ s.all[pre.length]? = some y := ⟨x, rfl, by
          obtain ⟨t, ht⟩ := hpre
          rw [← ht, List.append_assoc, List.getElem?_append_right (Nat.le_refl _), Nat.sub_self]
          rfl⟩
        clear hpre
        have hyx := Lib.hid hyx
        obtain ⟨n0, hn0⟩ : ∃ n0, n0 = pre.length := ⟨_, rfl⟩
        have HPN := Lib.hid hn0
        rw [← hn0] at bN hlen hat
        clear hn0
        have x11 : ∀ V : Stay W, V.w.cell? ⟨b11, 0, none⟩ = some (.int .i64 (n0 : Int)) := fun V => Stay.cell bN.cell V
        have x10 : ∀ V : Stay W, V.w.cell? ⟨b10, 0, none⟩ = some (.slice A NE c) := fun V => Stay.cell ((hk1.cell (p := ⟨b10, 0, none⟩) hlt10 (by show ¬ b10 = b11; omega)).trans (blk_cell HZ10.out 0)) V
        have HXX := Lib.hid (stay_hp bX)
        have hge : decide ((NE : Int) ≤ (n0 : Int)) = false := by simp; omega
        have hge2 : decide (NE ≤ n0) = false := by simp; omega
        have hge3 : decide ((n0 : Int) ≥ (NE : Int)) = false := by simp; omega
        obtain ⟨bA, off, rfl, hbb, hcc⟩ := rdc_pos HRD7.out (by omega)
        have hrg : W.rangeAt bA (off + n0 * 2) (#[.int .u64 (y.1 : Int), .int .u32 (y.2 : Int)] : Array Value).toList := fun j v hv => by
          have hj : j < 2 := by
            rcases Nat.lt_or_ge j 2 with q | q
            · exact q
            · rw [List.getElem?_eq_none (by simpa using q)] at hv; cases hv
          have hc := hcc (n0 * 2 + j) (by omega)
          rw [Nat.add_assoc]
          refine (hk1.cell (p := ⟨bA, off + (n0 * 2 + j), none⟩) (by show bA < _; omega) (by show ¬ bA = b11; omega)).trans (hc.trans ?_)
          rw [← hv]
          have hg : s.all.getD n0 (0, 0) = y := by rw [List.getD_eq_getElem?_getD, hat]; rfl
          rcases (show j = 0 ∨ j = 1 by omega) with rfl | rfl
          · rw [Nat.add_zero, entR_0, hg]
            rfl
          · rw [entR_1, hg]
            rfl
        have HRG := Lib.hid (stay_rng (by show bA < W.heap.size; omega) hrg)
        have hix : ∀ V : World, (Instr.indexAt 67 (.slice (some ⟨bA, off, none⟩) NE c) (.int .i64 (n0 : Int))).run Try.prog V = .ok (.pointer (some ⟨bA, off + n0 * 2, none⟩)) V := fun V => by
          have i0 : (0 : Int) ≤ (n0 : Int) := by omega
          have i1 : (n0 : Int) < (NE : Int) := by omega
          have i2 : ((n0 : Int)).toNat = n0 := by omega
          go_simp
        have KF : ∀ V : Stay W, Hid (KeepsFrom u7.heap.size W V.w) := fun V => Lib.hid ⟨V.below.size, fun k o _ hk _ => (V.below.block k (Array.getElem?_eq_some_iff.1 hk).1).trans hk⟩
        have hb6W : W.heap[b6]? = some (.cells #[.bool false] 4 (0, 0)) := (hk1.block b6 (lt_heap HZ6.out) (by omega)).trans HZ6.out
        have H6W := Lib.hid hb6W
        have HK1 := Lib.hid hk1
        have HBN := Lib.hid bN
        have zw : IntKind.i64.wrap ((n0 : Int) + 1) = (n0 : Int) + 1 := by rw [IntKind.wrap_i64]; omega
        clear hrg hcc hbb hb6W hb611 hb610 hwb
        by_cases hxy : y = x
        · subst hxy
          have hne : ∀ V : World, (binOp .neq 34 (.agg #[.int .u64 (y.1 : Int), .int .u32 (y.2 : Int)]) (.agg #[.int .u64 (y.1 : Int), .int .u32 (y.2 : Int)])).run Try.prog V = .ok (.bool false) V := fun V => by rw [neqE]; simp
          clear hat hlt bN hk1 bX hBx hlen
          gi_wp2
          refine wpIn_region_stay (by kernel_rfl) (by kernel_rfl) (by kernel_rfl) ?_
          repeat (first
            | (refine qh_row rfl 34 (.tmp 12) rfl Bx rfl 34 #[.int .u64 (y.1 : Int), .int .u32 (y.2 : Int)] (0, 0) _ HXX.out Try.underlying34 rfl (by kernel_rfl) ?_
               simp only [Act.put, List.setIfInBounds_toArray, List.set_cons_zero, List.set_cons_succ])
            | (refine qh_mid rfl 34 (.tmp 93) rfl bA (off + n0 * 2) rfl #[.int .u64 (y.1 : Int), .int .u32 (y.2 : Int)] _ HRG.out Try.underlying34 rfl (by kernel_rfl) ?_
               simp only [Act.put, List.setIfInBounds_toArray, List.set_cons_zero, List.set_cons_succ])
            | go_big_quiet_step (fail))
          refine wpQuiet_nil ?_
          intro w' hw'
          obtain ⟨V, rfl⟩ := hw'
          have bV : Boxed V.w b11 3 (.int .i64 (n0 : Int)) := (V.below.block b11 (lt_heap HBN.out)).trans HBN.out
          have HBV := Lib.hid bV
          have c11 := bV.cell
          have f11 := bV.frozen
          clear bV x11 x10 hix hne
          gi_wp2
          refine ⟨(KF V).out.trans ((KeepsOthers.setCell _ _ _).from _), KeptC.of_kept ((Kept.of_below V.below (fun k => k = b11)).setCell (p := ⟨b11, 0, none⟩) (.inl rfl) _), ?_, (HK1.out.step V.below).setCell (p := ⟨b11, 0, none⟩) (.inl rfl) _⟩
          have e : ((pre ++ [y]).length : Int) = (n0 : Int) + 1 := by rw [List.length_append, ← HPN.out]; simp
          rw [e]
          exact blk_set HBV.out 0 _
        · exact absurd hyx.out hxy
      case stop =>
        rintro D c pre W _ _ h _
        exact h.elim
      case done =>
        rintro D W hD ⟨bN, hk1⟩ hK
        obtain ⟨hb611, hb610, hwb⟩ := H611.out
        obtain ⟨hw5, hw6⟩ := HW5.out
        have hlt11 := lt_heap HZ11.out
        have HWD : Hid (w.heap.size ≤ D) := Lib.hid (by have := HB7.out.size; omega)
        have X6 : Hid (W.heap[b6]? = some (.cells #[.bool false] 4 (0, 0))) := Lib.hid ((hk1.block b6 (lt_heap HZ6.out) (by omega)).trans HZ6.out)
        have HWW : Hid (Below w.heap.size w W) := Lib.hid (HB7.out.trans (hk1.below HB7.out.size fun k e => by rw [e]; omega))
        have n11 : W.cell? ⟨b11, 0, none⟩ = some (.int .i64 (NE : Int)) := by rw [HNE.out]; exact bN.cell
        have n10 : W.cell? ⟨b10, 0, none⟩ = some (.slice A NE c) := (hk1.cell (p := ⟨b10, 0, none⟩) (lt_heap HZ10.out) (by show ¬ b10 = b11; omega)).trans (blk_cell HZ10.out 0)
        have HK := Lib.hid hK
        have HB6L : Hid (w.heap.size ≤ b6) := Lib.hid (by omega)
        have c6 := blk_cell X6.out 0
        have f6 := blk_free X6.out 0
        clear bN hk1 hK hD hb611 hb610 hwb hw5 hw6 hlt11
        go_wp2_with fail
        clear c6 f6 n11 n10
        have hne : D ≠ b6 := fun e => by
          have h1 := HK.out
          rw [e, X6.out] at h1
          cases h1
        have hD9 : (W.setCell ⟨b6, 0, none⟩ (.bool true)).heap[D]? = some (.deferred (some [])) := blk_far HK.out (p := ⟨b6, 0, none⟩) hne _
        have hc9 : (W.setCell ⟨b6, 0, none⟩ (.bool true)).heap[b6]? = some (.cells #[.bool true] 4 (0, 0)) := blk_set X6.out 0 _
        have hg9 := grownBy_putObj' (W.setCell ⟨b6, 0, none⟩ (.bool true)) D (.deferred none)
        have hb9 : Below w.heap.size w (W.setCell ⟨b6, 0, none⟩ (.bool true)) := HWW.out.setCell (p := ⟨b6, 0, none⟩) HB6L.out _
        refine ⟨by simp, .inl ⟨_, _, rfl, run_takeDeferred hD9, ?_⟩⟩
        refine ⟨.bool true, results_flag rfl _ _ b6 true rfl ?_, rfl, hb9.grown hg9 hb9.size fun k e => by injection e with e; subst e; exact HWD.out⟩
        exact blk_cell ((hg9.block b6 (lt_heap hc9) fun e => hne (by injection e with e; exact e.symm)).trans hc9) 0
end
end Go.Proofs.Ythjghofjdcepmaa
