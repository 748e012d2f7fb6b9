import Derived.Test.YtimcdnbfdkpffaaGreatGm29
/- Stage 14: the landed growing table: Step. -/
namespace Go.Proofs.YtimcdnbfdkpffaaGreat
set_option maxRecDepth 100000
open Go.RowKit Go.Shelf
section
variable {w w' : World} {p pn px : Nat} {s : Gr} {F Fn Fx : Nat → Prop}
set_option maxHeartbeats 4000000 in
theorem gstep_any (h0 : PGY w p pn px s F Fn Fx) (hs : s.Ok) : Calls Tryz.prog 56 #[.pointer (some ⟨p, 0, none⟩)] w fun e w' => e = .returned (.bool s.st.mv) ∧ ∃ F', PG0 w' p s.st F' ∧ ExtG F F' w w' := by
  have HS := Lib.hid hs
  have HM0 := Lib.hid h0.moves
  cases hmv : s.mv with
  | false =>
    have HV : Hid (s.st = s) := Lib.hid (by unfold Gr.st; rw [hmv, if_neg Bool.false_ne_true])
    have HMV := Lib.hid hmv
    have HG := Lib.hid h0
    rw [hmv] at HM0
    clear hmv h0 hs
    go_enter Tryz.func56, Tryz.ntmps56
    go_wp2_with (first
      | (go_at_call 99
         refine HM0.out.mono ?_
         rintro e u1 ⟨rfl, hb⟩
         have HB := Lib.hid hb
         clear hb))
    go_ret
    rw [HV.out]
    exact ⟨by rw [HMV.out]; rfl, F, ⟨_, _, _, _, HG.out.step HB.out⟩, ExtG.of_below HB.out⟩
  | true =>
    have HMV := Lib.hid hmv
    rw [hmv] at HM0
    have HG0 := Lib.hid h0
    have hcur := hs.cur hmv
    have htop := hs.now.top
    obtain ⟨at_, ha⟩ : ∃ a, a = s.at_ := ⟨_, rfl⟩
    obtain ⟨n, hn⟩ : ∃ n, n = s.now.n := ⟨_, rfl⟩
    rw [← ha, ← hn] at hcur
    rw [← hn] at htop
    have za : IntKind.i64.wrap ((at_ : Int) + 1) = (at_ : Int) + 1 := by rw [IntKind.wrap_i64]; omega
    have HA := Lib.hid ha
    have HN := Lib.hid hn
    have hbd : s.now.eh s.at_ < 18446744073709551616 ∧ s.now.ew s.at_ < 4294967296 := ⟨hs.now.hash _, hs.now.what _⟩
    clear h0 hs ha hn hmv
    cases hf : s.now.isF (s.at_ : Int) with
    | true =>
      obtain ⟨ga, hga⟩ : ∃ a, a = s.now.eh s.at_ := ⟨_, rfl⟩
      obtain ⟨gx, hgx⟩ : ∃ a, a = s.now.ew s.at_ := ⟨_, rfl⟩
      rw [← hga, ← hgx] at hbd
      have HGE : Hid (s.now.eh s.at_ = ga ∧ s.now.ew s.at_ = gx) := Lib.hid ⟨hga.symm, hgx.symm⟩
      have HGA := Lib.hid hbd.1
      have HGX := Lib.hid hbd.2
      have hv : s.now.gtV (s.at_ : Int) = #[.int .u64 (ga : Int), .int .u32 (gx : Int)] := by unfold Tb.gtV; rw [if_pos hf, Int.toNat_natCast, hga, hgx]
      have HV := Lib.hid hv
      have HF := Lib.hid hf
      clear hga hgx hv hf hbd
      go_enter Tryz.func56, Tryz.ntmps56
      go_upto_region 3 with (first
        | (go_at_call 99
           refine HM0.out.mono ?_
           rintro e u0 ⟨rfl, hb⟩
           have HB0 := Lib.hid hb
           clear hb))
      have HG := Lib.hid (HG0.out.step HB0.out)
      have hq := HG.out.blk
      rw [HMV.out, if_pos rfl] at hq
      have HQ := Lib.hid hq
      have HQL := Lib.hid (lt_heap hq)
      have X0 : Hid (∀ W, Below u0.heap.size u0 W → W.cell? ⟨p, 1, none⟩ = some (.pointer (some ⟨pn, 0, none⟩))) := Lib.hid fun W hb => blk_cell ((hb.block p HQL.out).trans HQ.out) 1
      have X4 : Hid (∀ W, Below u0.heap.size u0 W → W.cell? ⟨p, 3, none⟩ = some (.int .i64 (s.at_ : Int))) := Lib.hid fun W hb => blk_cell ((hb.block p HQL.out).trans HQ.out) 3
      have HGET := Lib.hid fun W (k : Below u0.heap.size u0 W) => tabP.get (pt0_step HG.out.now k) HS.out.now (s.at_ : Int)
      rw [HV.out, HF.out] at HGET
      clear hq HM0 HG0
      rename_i Kc hKc
      refine wp_region_invG (fun a0 l a W => l.size = 15 ∧ a0.tmps.size = 65 ∧ Below u0.heap.size u0 W ∧ ∃ (z : Nat), (l.getD 12 false = true → BoxF l 13 W u0.heap.size z #[.int .u64 0, .int .u32 0] #[.int .u64 (ga : Int), .int .u32 (gx : Int)] 99) ∧ (l.getD 13 false = true → l.getD 12 false = true) ∧ FrU a0 (kv ([(0, 9), (1, 10), (2, 11), (3, 12), (4, 13), (5, 14), (6, 15), (7, 16), (8, 17), (9, 8), (10, 18), (11, 19), (12, 3), (14, 4)] : List (Nat × Nat)) (fun i => ([.pointer (some ⟨p, 0, none⟩), .pointer (some ⟨p, 0, none⟩), .pointer (some ⟨p, 1, none⟩), .pointer (some ⟨pn, 0, none⟩), .pointer (some ⟨p, 0, none⟩), .pointer (some ⟨p, 0, none⟩), .pointer (some ⟨p, 3, none⟩), .int .i64 (s.at_ : Int), .tuple #[.agg #[.int .u64 (ga : Int), .int .u32 (gx : Int)], .bool true], .tuple #[.agg #[.int .u64 (ga : Int), .int .u32 (gx : Int)], .bool true], .agg #[.int .u64 (ga : Int), .int .u32 (gx : Int)], .bool true, .pointer (some ⟨z, 0, none⟩), undef, .bool true][i]?).getD undef)) l a) ?_ ?_ ?_ ?_ ?_ ?_
      · kernel_rfl
      · exact fun _ _ _ h => h.1
      · kernel_rfl
      · exact ⟨by simp, rfl, (Below.refl _ _).drew, 0, (fun h => by rw [getD_none] at h; cases h), (fun h => by rw [getD_none] at h; cases h), FrU.start _ _ _⟩
      · intro l a W i5 o hI ho hn hdep
        obtain ⟨hl, hsz, hW, z, hX3, hV, hF⟩ := hI
        have x0 := X0.out W hW
        have x4 := X4.out W hW
        match i5, ho, hn with
        | 0, ho, hn =>
          simp only [List.getElem?_toArray, List.getElem?_cons_zero, Option.some.injEq] at ho
          subst ho
          refine ⟨rfl, ?_⟩
          have h0 : a.tmps[0]?.getD undef = .pointer (some ⟨p, 0, none⟩) := hF.baseK 0 rfl rfl
          exact owp_value (.pointer (some ⟨p, 0, none⟩)) (w' := W) (by clear hdep; go_simp) ⟨by simp [hl], hsz, hW, z, (fun h => ((hX3 (by rw [getD_set (by decide)] at h; exact h))).on (show 13 ≠ 0 by decide) (Below.refl _ _)), (fun h => by rw [getD_set (by decide)] at h ⊢; exact hV h), hF.putK 0 9 _ (by rw [hsz]; decide) rfl rfl⟩
        | 1, ho, hn =>
          simp only [List.getElem?_toArray, List.getElem?_cons_zero, List.getElem?_cons_succ, Option.some.injEq] at ho
          subst ho
          refine ⟨rfl, ?_⟩
          have h9 := hF.slotK (i := 0) (s := 9) (v := .pointer (some ⟨p, 0, none⟩)) rfl (hdep ⟨0, .data⟩ (by simp) rfl) rfl
          exact owp_value (.pointer (some ⟨p, 0, none⟩)) (w' := W) (by clear hdep; go_simp) ⟨by simp [hl], hsz, hW, z, (fun h => ((hX3 (by rw [getD_set (by decide)] at h; exact h))).on (show 13 ≠ 1 by decide) (Below.refl _ _)), (fun h => by rw [getD_set (by decide)] at h ⊢; exact hV h), hF.putK 1 10 _ (by rw [hsz]; decide) rfl rfl⟩
        | 2, ho, hn =>
          simp only [List.getElem?_toArray, List.getElem?_cons_zero, List.getElem?_cons_succ, Option.some.injEq] at ho
          subst ho
          refine ⟨rfl, ?_⟩
          have h10 := hF.slotK (i := 1) (s := 10) (v := .pointer (some ⟨p, 0, none⟩)) rfl (hdep ⟨1, .data⟩ (by simp) rfl) rfl
          exact owp_value (.pointer (some ⟨p, 1, none⟩)) (w' := W) (by clear hdep; go_simp) ⟨by simp [hl], hsz, hW, z, (fun h => ((hX3 (by rw [getD_set (by decide)] at h; exact h))).on (show 13 ≠ 2 by decide) (Below.refl _ _)), (fun h => by rw [getD_set (by decide)] at h ⊢; exact hV h), hF.putK 2 11 _ (by rw [hsz]; decide) rfl rfl⟩
        | 3, ho, hn =>
          simp only [List.getElem?_toArray, List.getElem?_cons_zero, List.getElem?_cons_succ, Option.some.injEq] at ho
          subst ho
          refine ⟨rfl, ?_⟩
          have h11 := hF.slotK (i := 2) (s := 11) (v := .pointer (some ⟨p, 1, none⟩)) rfl (hdep ⟨2, .data⟩ (by simp) rfl) rfl
          exact owp_value (.pointer (some ⟨pn, 0, none⟩)) (w' := W) (by clear hdep; go_simp) ⟨by simp [hl], hsz, hW, z, (fun h => ((hX3 (by rw [getD_set (by decide)] at h; exact h))).on (show 13 ≠ 3 by decide) (Below.refl _ _)), (fun h => by rw [getD_set (by decide)] at h ⊢; exact hV h), hF.putK 3 12 _ (by rw [hsz]; decide) rfl rfl⟩
        | 4, ho, hn =>
          simp only [List.getElem?_toArray, List.getElem?_cons_zero, List.getElem?_cons_succ, Option.some.injEq] at ho
          subst ho
          refine ⟨rfl, ?_⟩
          have h0 : a.tmps[0]?.getD undef = .pointer (some ⟨p, 0, none⟩) := hF.baseK 0 rfl rfl
          exact owp_value (.pointer (some ⟨p, 0, none⟩)) (w' := W) (by clear hdep; go_simp) ⟨by simp [hl], hsz, hW, z, (fun h => ((hX3 (by rw [getD_set (by decide)] at h; exact h))).on (show 13 ≠ 4 by decide) (Below.refl _ _)), (fun h => by rw [getD_set (by decide)] at h ⊢; exact hV h), hF.putK 4 13 _ (by rw [hsz]; decide) rfl rfl⟩
        | 5, ho, hn =>
          simp only [List.getElem?_toArray, List.getElem?_cons_zero, List.getElem?_cons_succ, Option.some.injEq] at ho
          subst ho
          refine ⟨rfl, ?_⟩
          have h13 := hF.slotK (i := 4) (s := 13) (v := .pointer (some ⟨p, 0, none⟩)) rfl (hdep ⟨4, .data⟩ (by simp) rfl) rfl
          exact owp_value (.pointer (some ⟨p, 0, none⟩)) (w' := W) (by clear hdep; go_simp) ⟨by simp [hl], hsz, hW, z, (fun h => ((hX3 (by rw [getD_set (by decide)] at h; exact h))).on (show 13 ≠ 5 by decide) (Below.refl _ _)), (fun h => by rw [getD_set (by decide)] at h ⊢; exact hV h), hF.putK 5 14 _ (by rw [hsz]; decide) rfl rfl⟩
        | 6, ho, hn =>
          simp only [List.getElem?_toArray, List.getElem?_cons_zero, List.getElem?_cons_succ, Option.some.injEq] at ho
          subst ho
          refine ⟨rfl, ?_⟩
          have h14 := hF.slotK (i := 5) (s := 14) (v := .pointer (some ⟨p, 0, none⟩)) rfl (hdep ⟨5, .data⟩ (by simp) rfl) rfl
          exact owp_value (.pointer (some ⟨p, 3, none⟩)) (w' := W) (by clear hdep; go_simp) ⟨by simp [hl], hsz, hW, z, (fun h => ((hX3 (by rw [getD_set (by decide)] at h; exact h))).on (show 13 ≠ 6 by decide) (Below.refl _ _)), (fun h => by rw [getD_set (by decide)] at h ⊢; exact hV h), hF.putK 6 15 _ (by rw [hsz]; decide) rfl rfl⟩
        | 7, ho, hn =>
          simp only [List.getElem?_toArray, List.getElem?_cons_zero, List.getElem?_cons_succ, Option.some.injEq] at ho
          subst ho
          refine ⟨rfl, ?_⟩
          have h15 := hF.slotK (i := 6) (s := 15) (v := .pointer (some ⟨p, 3, none⟩)) rfl (hdep ⟨6, .data⟩ (by simp) rfl) rfl
          exact owp_value (.int .i64 (s.at_ : Int)) (w' := W) (by clear hdep; go_simp) ⟨by simp [hl], hsz, hW, z, (fun h => ((hX3 (by rw [getD_set (by decide)] at h; exact h))).on (show 13 ≠ 7 by decide) (Below.refl _ _)), (fun h => by rw [getD_set (by decide)] at h ⊢; exact hV h), hF.putK 7 16 _ (by rw [hsz]; decide) rfl rfl⟩
        | 8, ho, hn =>
          simp only [List.getElem?_toArray, List.getElem?_cons_zero, List.getElem?_cons_succ, Option.some.injEq] at ho
          subst ho
          refine ⟨rfl, ?_⟩
          have h12 := hF.slotK (i := 3) (s := 12) (v := .pointer (some ⟨pn, 0, none⟩)) rfl (hdep ⟨3, .data⟩ (by simp) rfl) rfl
          have h16 := hF.slotK (i := 7) (s := 16) (v := .int .i64 (s.at_ : Int)) rfl (hdep ⟨7, .data⟩ (by simp) rfl) rfl
          refine owp_call (fn := 100) (args := #[.pointer (some ⟨pn, 0, none⟩), .int .i64 (s.at_ : Int)]) (by clear hdep; go_simp) ?_
          refine (HGET.out W hW).mono ?_
          rintro e w' ⟨rfl, hb⟩
          exact ⟨_, rfl, by simp [hl], hsz, hW.trans (hb.mono hW.size), z, (fun h => ((hX3 (by rw [getD_set (by decide)] at h; exact h))).on (show 13 ≠ 8 by decide) hb), (fun h => by rw [getD_set (by decide)] at h ⊢; exact hV h), hF.putK 8 17 _ (by rw [hsz]; decide) rfl rfl⟩
        | 9, ho, hn =>
          simp only [List.getElem?_toArray, List.getElem?_cons_zero, List.getElem?_cons_succ, Option.some.injEq] at ho
          subst ho
          refine ⟨rfl, ?_⟩
          have h17 := hF.slotK (i := 8) (s := 17) (v := .tuple #[.agg #[.int .u64 (ga : Int), .int .u32 (gx : Int)], .bool true]) rfl (hdep ⟨8, .data⟩ (by simp) rfl) rfl
          exact owp_value (.tuple #[.agg #[.int .u64 (ga : Int), .int .u32 (gx : Int)], .bool true]) (w' := W) (by clear hdep; go_simp) ⟨by simp [hl], hsz, hW, z, (fun h => ((hX3 (by rw [getD_set (by decide)] at h; exact h))).on (show 13 ≠ 9 by decide) (Below.refl _ _)), (fun h => by rw [getD_set (by decide)] at h ⊢; exact hV h), hF.putK 9 8 _ (by rw [hsz]; decide) rfl rfl⟩
        | 10, ho, hn =>
          simp only [List.getElem?_toArray, List.getElem?_cons_zero, List.getElem?_cons_succ, Option.some.injEq] at ho
          subst ho
          refine ⟨rfl, ?_⟩
          have h8 := hF.slotK (i := 9) (s := 8) (v := .tuple #[.agg #[.int .u64 (ga : Int), .int .u32 (gx : Int)], .bool true]) rfl (hdep ⟨9, .data⟩ (by simp) rfl) rfl
          exact owp_value (.agg #[.int .u64 (ga : Int), .int .u32 (gx : Int)]) (w' := W) (by clear hdep; go_simp) ⟨by simp [hl], hsz, hW, z, (fun h => ((hX3 (by rw [getD_set (by decide)] at h; exact h))).on (show 13 ≠ 10 by decide) (Below.refl _ _)), (fun h => by rw [getD_set (by decide)] at h ⊢; exact hV h), hF.putK 10 18 _ (by rw [hsz]; decide) rfl rfl⟩
        | 11, ho, hn =>
          simp only [List.getElem?_toArray, List.getElem?_cons_zero, List.getElem?_cons_succ, Option.some.injEq] at ho
          subst ho
          refine ⟨rfl, ?_⟩
          have h8 := hF.slotK (i := 9) (s := 8) (v := .tuple #[.agg #[.int .u64 (ga : Int), .int .u32 (gx : Int)], .bool true]) rfl (hdep ⟨9, .data⟩ (by simp) rfl) rfl
          exact owp_value (.bool true) (w' := W) (by clear hdep; go_simp) ⟨by simp [hl], hsz, hW, z, (fun h => ((hX3 (by rw [getD_set (by decide)] at h; exact h))).on (show 13 ≠ 11 by decide) (Below.refl _ _)), (fun h => by rw [getD_set (by decide)] at h ⊢; exact hV h), hF.putK 11 19 _ (by rw [hsz]; decide) rfl rfl⟩
        | 12, ho, hn =>
          simp only [List.getElem?_toArray, List.getElem?_cons_zero, List.getElem?_cons_succ, Option.some.injEq] at ho
          subst ho
          refine ⟨rfl, ?_⟩
          have hb := below_alloc W (.cells #[.int .u64 0, .int .u32 0] 99)
          refine owp_value (.pointer (some ⟨W.heap.size, 0, none⟩)) (w' := W.alloc (.cells #[.int .u64 0, .int .u32 0] 99)) (by clear hdep; go_simp) ?_
          have hF2 := hF.swapQ (V' := (fun i => ([.pointer (some ⟨p, 0, none⟩), .pointer (some ⟨p, 0, none⟩), .pointer (some ⟨p, 1, none⟩), .pointer (some ⟨pn, 0, none⟩), .pointer (some ⟨p, 0, none⟩), .pointer (some ⟨p, 0, none⟩), .pointer (some ⟨p, 3, none⟩), .int .i64 (s.at_ : Int), .tuple #[.agg #[.int .u64 (ga : Int), .int .u32 (gx : Int)], .bool true], .tuple #[.agg #[.int .u64 (ga : Int), .int .u32 (gx : Int)], .bool true], .agg #[.int .u64 (ga : Int), .int .u32 (gx : Int)], .bool true, .pointer (some ⟨W.heap.size, 0, none⟩), undef, .bool true][i]?).getD undef)) 12 hn (fun q hq => by
            match q with
            | 0 => rfl
            | 1 => rfl
            | 2 => rfl
            | 3 => rfl
            | 4 => rfl
            | 5 => rfl
            | 6 => rfl
            | 7 => rfl
            | 8 => rfl
            | 9 => rfl
            | 10 => rfl
            | 11 => rfl
            | 12 => exact absurd rfl hq
            | 13 => rfl
            | 14 => rfl
            | q + 15 => rfl)
          have h13 : l.getD 13 false = false := by
            cases e : l.getD 13 false with
            | false => rfl
            | true => exact absurd (hV e) (by rw [getD_tf hn]; exact Bool.false_ne_true)
          exact ⟨by simp [hl], hsz, hW.trans (hb.mono hW.size), W.heap.size, (fun _ => BoxF.new h13 (by decide) hW.size), (fun _ => getD_set_self hn), hF2.putK 12 3 _ (by rw [hsz]; decide) rfl rfl⟩
        | 13, ho, hn =>
          simp only [List.getElem?_toArray, List.getElem?_cons_zero, List.getElem?_cons_succ, Option.some.injEq] at ho
          subst ho
          refine ⟨rfl, ?_⟩
          have h3 := hF.slotK (i := 12) (s := 3) (v := .pointer (some ⟨z, 0, none⟩)) rfl (hdep ⟨12, .data⟩ (by simp) rfl) rfl
          have h18 := hF.slotK (i := 10) (s := 18) (v := .agg #[.int .u64 (ga : Int), .int .u32 (gx : Int)]) rfl (hdep ⟨10, .data⟩ (by simp) rfl) rfl
          have h3 := hF.slotK (i := 12) (s := 3) (v := .pointer (some ⟨z, 0, none⟩)) rfl (hdep ⟨12, .data⟩ (by simp) rfl) rfl
          have h20 := hF.slotK (i := 10) (s := 18) (v := .agg #[.int .u64 (ga : Int), .int .u32 (gx : Int)]) rfl (hdep ⟨10, .data⟩ (by simp) rfl) rfl
          have hx := hX3 (hdep ⟨12, .data⟩ (by simp) rfl)
          obtain ⟨hx1, hx2⟩ := hx.put hn
          refine wp_store_row 99 (.tmp 3) (.tmp 18) rfl z #[.int .u64 (ga : Int), .int .u32 (gx : Int)] (by show a.tmps.getD 3 undef = _; rw [Array.getD_eq_getD_getElem?]; exact h3) (by show a.tmps.getD 18 undef = _; rw [Array.getD_eq_getD_getElem?]; exact h20) 99 #[.int .u64 0, .int .u32 0] hx1 (by kernel_rfl) rfl (by simp [Value.oneCell']) ?_
          exact ⟨by simp [hl], hsz, below_setRow hW hx.1 _, z, (fun _ => hx2), (fun _ => by rw [getD_set (by decide)]; exact hdep ⟨12, .data⟩ (by simp) rfl), hF.skipK 13 (by decide)⟩
        | 14, ho, hn =>
          simp only [List.getElem?_toArray, List.getElem?_cons_zero, List.getElem?_cons_succ, Option.some.injEq] at ho
          subst ho
          refine ⟨rfl, ?_⟩
          have h19 := hF.slotK (i := 11) (s := 19) (v := .bool true) rfl (hdep ⟨11, .data⟩ (by simp) rfl) rfl
          exact owp_value (.bool true) (w' := W) (by clear hdep; go_simp) ⟨by simp [hl], hsz, hW, z, (fun h => ((hX3 (by rw [getD_set (by decide)] at h; exact h))).on (show 13 ≠ 14 by decide) (Below.refl _ _)), (fun h => by rw [getD_set (by decide)] at h ⊢; exact hV h), hF.putK 14 4 _ (by rw [hsz]; decide) rfl rfl⟩
        | i5 + 15, ho, hn => simp at ho
      · intro l a W1 hI hall
        obtain ⟨_, _, hW1, z, hX3, hV, hF⟩ := hI
        have hall : ∀ i, i < 15 → l.getD i false = true := hall
        have ha := FrU.allQ (K := ([(0, 9), (1, 10), (2, 11), (3, 12), (4, 13), (5, 14), (6, 15), (7, 16), (8, 17), (9, 8), (10, 18), (11, 19), (12, 3), (14, 4)] : List (Nat × Nat))) (V := (fun i => ([.pointer (some ⟨p, 0, none⟩), .pointer (some ⟨p, 0, none⟩), .pointer (some ⟨p, 1, none⟩), .pointer (some ⟨pn, 0, none⟩), .pointer (some ⟨p, 0, none⟩), .pointer (some ⟨p, 0, none⟩), .pointer (some ⟨p, 3, none⟩), .int .i64 (s.at_ : Int), .tuple #[.agg #[.int .u64 (ga : Int), .int .u32 (gx : Int)], .bool true], .tuple #[.agg #[.int .u64 (ga : Int), .int .u32 (gx : Int)], .bool true], .agg #[.int .u64 (ga : Int), .int .u32 (gx : Int)], .bool true, .pointer (some ⟨z, 0, none⟩), undef, .bool true][i]?).getD undef)) (BL := ([(0, 9, .pointer (some ⟨p, 0, none⟩)), (1, 10, .pointer (some ⟨p, 0, none⟩)), (2, 11, .pointer (some ⟨p, 1, none⟩)), (3, 12, .pointer (some ⟨pn, 0, none⟩)), (4, 13, .pointer (some ⟨p, 0, none⟩)), (5, 14, .pointer (some ⟨p, 0, none⟩)), (6, 15, .pointer (some ⟨p, 3, none⟩)), (7, 16, .int .i64 (s.at_ : Int)), (8, 17, .tuple #[.agg #[.int .u64 (ga : Int), .int .u32 (gx : Int)], .bool true]), (9, 8, .tuple #[.agg #[.int .u64 (ga : Int), .int .u32 (gx : Int)], .bool true]), (10, 18, .agg #[.int .u64 (ga : Int), .int .u32 (gx : Int)]), (11, 19, .bool true), (12, 3, .pointer (some ⟨z, 0, none⟩)), (14, 4, .bool true)] : List (Nat × Nat × Value))) hF rfl (n := 15) hall rfl
        subst ha
        have HW1 := Lib.hid hW1
        have HX3 := Lib.hid (hX3 (hall 12 (by decide)))
        have HL13 := Lib.hid (hall 13 (by decide))
        clear hF hall hW1 hV hX3
        refine hKc _ _ ?_
        simp only [setAll, List.setIfInBounds_toArray, List.set_cons_succ, List.set_cons_zero]
        have HR4 : Hid (W1.heap[z]? = some (.cells #[.int .u64 (ga : Int), .int .u32 (gx : Int)] 99 (0, 0))) := Lib.hid (by
          have h := HX3.out.2
          rw [HL13.out] at h
          exact h)
        have HRL := Lib.hid HX3.out.1
        have HG4 := Lib.hid (HG.out.step HW1.out)
        have HB4 := HW1
        clear HX3 HL13 HW1 X0 X4
        generalize W1 = v4 at *
        generalize z = r at *
        have r0 : v4.cell? ⟨r, 0, none⟩ = some (.int .u64 (ga : Int)) := blk_cell HR4.out 0
        have r1 : v4.cell? ⟨r, 1, none⟩ = some (.int .u32 (gx : Int)) := blk_cell HR4.out 1
        have hq := HG4.out.blk
        rw [HMV.out, if_pos rfl] at hq
        have x2 : v4.cell? ⟨p, 2, none⟩ = some (.pointer (some ⟨px, 0, none⟩)) := blk_cell hq 2
        clear hq
        go_upto_region 5 with fail
        go_still_tail 5, (by kernel_rfl)
        repeat still_step
        try refine wpStill_nil ?_
        change wpList _ _ _ _ _ v4.drew
        have HG5 := Lib.hid (HG4.out.step (Below.refl _ v4).drew)
        have HB5 := Lib.hid (HB4.out.trans ((Below.refl _ v4).drew.mono HB4.out.size))
        clear r0 r1 x2 HG4 HR4 HB4
        generalize v4.drew = v5 at *
        have HPP := Lib.hid (tabP.put (HG5.out.next HMV.out) (HS.out.next HMV.out) ga gx HGA.out HGX.out)
        obtain ⟨EI, hEI⟩ : ∃ E, E = s.next.ptI ga := ⟨_, rfl⟩
        obtain ⟨EE, hEE⟩ : ∃ E, E = s.next.ptE ga := ⟨_, rfl⟩
        rw [← hEI, ← hEE] at HPP
        clear hEI hEE
        go_upto_region 6 with (first
          | (go_at_call 101
             refine HPP.out.mono ?_
             rintro e v6 ⟨rfl, G6, ha, hx⟩
             have HA6 := Lib.hid ha
             have HX6 := Lib.hid hx
             clear ha hx))
        have HG6 := Lib.hid (HG5.out.setX HMV.out HA6.out HX6.out)
        have hq := HG6.out.1.blk
        have x1 : v6.cell? ⟨p, 1, none⟩ = some (.pointer (some ⟨pn, 0, none⟩)) := blk_cell hq 1
        have x3 : v6.cell? ⟨p, 3, none⟩ = some (.int .i64 (s.at_ : Int)) := blk_cell hq 3
        clear hq HPP
        go_still_tail 8, (by kernel_rfl)
        repeat still_step
        try refine wpStill_nil ?_
        change wpList _ _ _ _ _ v6.drew
        have HG7 := Lib.hid (HG6.out.1.step (Below.refl _ v6).drew)
        have HX7 := Lib.hid (((ExtG.of_below HB5.out).trans HG6.out.2).trans (ExtG.of_below (Below.refl _ v6).drew))
        clear x1 x3 HG6 HG5 HB5 HA6 HX6
        generalize v6.drew = v7 at *
        have HDD := Lib.hid (tabP.drop HG7.out.now HS.out.now (s.at_ : Int))
        obtain ⟨ED, hED⟩ : ∃ E, E = s.now.drE (s.at_ : Int) := ⟨_, rfl⟩
        rw [← hED] at HDD
        clear hED
        go_upto_region 7 with (first
          | (go_at_call 102
             refine HDD.out.mono ?_
             rintro e v8 ⟨rfl, G8, ha, hx⟩
             have HA8 := Lib.hid ha
             have HX8 := Lib.hid hx
             clear ha hx))
        have hg8 := HG7.out.setN HA8.out HX8.out
        have HM1 : Hid (s.moved.mv = true) := Lib.hid ((Gr.moved_mv s).trans HMV.out)
        have HN1 : Hid (s.moved.now.n = n) := Lib.hid ((Gr.moved_n s).trans HN.out.symm)
        have HA1 : Hid (at_ = s.moved.at_) := Lib.hid (HA.out.trans (Gr.moved_at s).symm)
        have HO1 : Hid (s.moved.now.Ok) := Lib.hid (Gr.ok_moved HS.out HMV.out).now
        have HS1 : Hid (s.moved = ⟨s.now.dr (s.at_ : Int), s.next.pt ga gx, true, s.most, s.at_⟩) := Lib.hid (by unfold Gr.moved; rw [if_pos HF.out, HGE.out.1, HGE.out.2, HMV.out])
        have HGn : Hid (PGY v8 p pn px s.moved _ _ _) := Lib.hid (by rw [HS1.out]; exact hg8.1)
        have HXn := Lib.hid (HX7.out.trans hg8.2)
        clear HS1 HG7 HX7 HDD HA8 HX8 hg8
        have hq := HGn.out.blk
        rw [HM1.out, if_pos rfl] at hq
        have x3 : v8.cell? ⟨p, 3, none⟩ = some (.int .i64 (at_ : Int)) := by rw [HA1.out]; exact blk_cell hq 3
        have f3 := blk_free hq 3
        have HQa := Lib.hid hq
        clear hq
        go_upto_region 8 with fail
        have HQb : Hid ((v8.setCell ⟨p, 3, none⟩ (.int .i64 ((at_ : Int) + 1))).heap[p]? = some (.cells #[.int .i64 (s.moved.most : Int), .pointer (some ⟨pn, 0, none⟩), .pointer (some ⟨px, 0, none⟩), .int .i64 ((at_ : Int) + 1)] 131 (0, 0))) := Lib.hid (blk_set HQa.out 3 _)
        have HKb : Hid (Kept (fun k => k = p) v8 (v8.setCell ⟨p, 3, none⟩ (.int .i64 ((at_ : Int) + 1)))) := Lib.hid ((Kept.refl (fun k => k = p) v8).setCell (p := ⟨p, 3, none⟩) (.inl rfl) _)
        clear x3 f3 HQa
        generalize v8.setCell ⟨p, 3, none⟩ (.int .i64 ((at_ : Int) + 1)) = va at *
        have HGb := Lib.hid (HGn.out.turn HKb.out (s' := ⟨s.moved.now, s.moved.next, true, s.moved.most, at_ + 1⟩) HQb.out rfl rfl fun _ => ⟨HM1.out, rfl⟩)
        have HPL : Hid (∀ W, Below va.heap.size va W → Calls Tryz.prog 103 #[.pointer (some ⟨pn, 0, none⟩)] W (ret (.int .i64 (n : Int)) W)) := Lib.hid fun W k => by
          have h := tabP.places (pt0_step HGb.out.1.now k) HO1.out
          rwa [show (⟨s.moved.now, s.moved.next, true, s.moved.most, at_ + 1⟩ : Gr).now.n = n from HN1.out] at h
        have z1 : ∀ W : Stay va, W.w.cell? ⟨p, 1, none⟩ = some (.pointer (some ⟨pn, 0, none⟩)) := fun W => Stay.cell (blk_cell HQb.out 1) W
        have z3 : ∀ W : Stay va, W.w.cell? ⟨p, 3, none⟩ = some (.int .i64 ((at_ : Int) + 1)) := fun W => Stay.cell (blk_cell HQb.out 3) W
        refine wp_region_stay (by kernel_rfl) (by kernel_rfl) ?_
        repeat (go_big_quiet_step (first | (go_at_call 103; with_reducible exact Calls.stay _ (HPL.out _ (Stay.below _)))))
        refine wpQuiet_nil ?_
        intro w' hw'
        obtain ⟨W, rfl⟩ := hw'
        have HGc := Lib.hid (HGb.out.1.step W.below)
        have HXc := Lib.hid ((HXn.out.trans HGb.out.2).trans (ExtG.of_below W.below))
        have HQc : Hid (W.w.heap[p]? = some (.cells #[.int .i64 (s.moved.most : Int), .pointer (some ⟨pn, 0, none⟩), .pointer (some ⟨px, 0, none⟩), .int .i64 ((at_ : Int) + 1)] 131 (0, 0))) := Lib.hid ((W.below.block p (lt_heap HQb.out)).trans HQb.out)
        clear z1 z3 HGb HKb HQb HPL
        generalize W.w = vc at *
        by_cases ce : at_ + 1 = n
        · have ce' : (at_ : Int) + 1 = (n : Int) := by omega
          have HC := Lib.hid ce
          have y2 : vc.cell? ⟨p, 2, none⟩ = some (.pointer (some ⟨px, 0, none⟩)) := blk_cell HQc.out 2
          have y1 : vc.cell? ⟨p, 1, none⟩ = some (.pointer (some ⟨pn, 0, none⟩)) := blk_cell HQc.out 1
          have g1 := blk_free HQc.out 1
          have HQd : Hid ((vc.setCell ⟨p, 1, none⟩ (.pointer (some ⟨px, 0, none⟩))).heap[p]? = some (.cells #[.int .i64 (s.moved.most : Int), .pointer (some ⟨px, 0, none⟩), .pointer (some ⟨px, 0, none⟩), .int .i64 ((at_ : Int) + 1)] 131 (0, 0))) := Lib.hid (blk_set HQc.out 1 _)
          have HKd : Hid (Kept (fun k => k = p) vc (vc.setCell ⟨p, 1, none⟩ (.pointer (some ⟨px, 0, none⟩)))) := Lib.hid ((Kept.refl (fun k => k = p) vc).setCell (p := ⟨p, 1, none⟩) (.inl rfl) _)
          have y2d := blk_cell HQd.out 2
          have g2d := blk_free HQd.out 2
          clear ce
          go_upto_region 10 with fail
          have HQe : Hid (((vc.setCell ⟨p, 1, none⟩ (.pointer (some ⟨px, 0, none⟩))).setCell ⟨p, 2, none⟩ (.pointer none)).heap[p]? = some (.cells #[.int .i64 (s.moved.most : Int), .pointer (some ⟨px, 0, none⟩), .pointer none, .int .i64 ((at_ : Int) + 1)] 131 (0, 0))) := Lib.hid (blk_set HQd.out 2 _)
          have HKe := Lib.hid (HKd.out.setCell (p := ⟨p, 2, none⟩) (.inl rfl) (.pointer none))
          clear y1 y2 g1 y2d g2d
          generalize (vc.setCell ⟨p, 1, none⟩ (.pointer (some ⟨px, 0, none⟩))).setCell ⟨p, 2, none⟩ (.pointer none) = ve at *
          have HEN := Lib.hid (HGc.out.ended rfl HKe.out (at' := at_ + 1) HQe.out)
          have HMV2 := Lib.hid HEN.out.1.moves
          go_wp2_with (first
            | (go_at_call 99
               refine HMV2.out.mono ?_
               rintro e v9 ⟨rfl, hb⟩
               have HB9 := Lib.hid hb
               clear hb))
          go_ret
          have hst : s.st = ⟨s.moved.next, s.moved.next, false, s.moved.most, at_ + 1⟩ := by
            unfold Gr.st
            rw [HMV.out, if_pos rfl]
            unfold Gr.on
            rw [← HA1.out, HN1.out, if_pos HC.out]
          rw [hst]
          exact ⟨rfl, _, ⟨_, _, _, _, HEN.out.1.step HB9.out⟩, ((ExtG.of_below HB0.out).trans HXc.out).trans (HEN.out.2.trans (ExtG.of_below HB9.out))⟩
        · have ce' : ¬ (at_ : Int) + 1 = (n : Int) := by omega
          have HC := Lib.hid ce
          have HMV2 := Lib.hid HGc.out.moves
          clear ce
          go_wp2_with (first
            | (go_at_call 99
               refine HMV2.out.mono ?_
               rintro e v9 ⟨rfl, hb⟩
               have HB9 := Lib.hid hb
               clear hb))
          go_ret
          have hst : s.st = ⟨s.moved.now, s.moved.next, true, s.moved.most, at_ + 1⟩ := by
            unfold Gr.st
            rw [HMV.out, if_pos rfl]
            unfold Gr.on
            rw [← HA1.out, HN1.out, if_neg HC.out, HM1.out]
          rw [hst]
          exact ⟨rfl, _, ⟨_, _, _, _, HGc.out.step HB9.out⟩, ((ExtG.of_below HB0.out).trans HXc.out).trans (ExtG.of_below HB9.out)⟩
    | false =>
      obtain ⟨ga, hga⟩ : ∃ a : Nat, a = 0 := ⟨_, rfl⟩
      obtain ⟨gx, hgx⟩ : ∃ a : Nat, a = 0 := ⟨_, rfl⟩
      have hv : s.now.gtV (s.at_ : Int) = #[.int .u64 (ga : Int), .int .u32 (gx : Int)] := by unfold Tb.gtV; rw [if_neg (by rw [hf]; exact Bool.false_ne_true), hga, hgx]; rfl
      have HV := Lib.hid hv
      have HF := Lib.hid hf
      clear hga hgx hv hf hbd
      go_enter Tryz.func56, Tryz.ntmps56
      go_upto_region 3 with (first
        | (go_at_call 99
           refine HM0.out.mono ?_
           rintro e u0 ⟨rfl, hb⟩
           have HB0 := Lib.hid hb
           clear hb))
      have HG := Lib.hid (HG0.out.step HB0.out)
      have hq := HG.out.blk
      rw [HMV.out, if_pos rfl] at hq
      have HQ := Lib.hid hq
      have HQL := Lib.hid (lt_heap hq)
      have X0 : Hid (∀ W, Below u0.heap.size u0 W → W.cell? ⟨p, 1, none⟩ = some (.pointer (some ⟨pn, 0, none⟩))) := Lib.hid fun W hb => blk_cell ((hb.block p HQL.out).trans HQ.out) 1
      have X4 : Hid (∀ W, Below u0.heap.size u0 W → W.cell? ⟨p, 3, none⟩ = some (.int .i64 (s.at_ : Int))) := Lib.hid fun W hb => blk_cell ((hb.block p HQL.out).trans HQ.out) 3
      have HGET := Lib.hid fun W (k : Below u0.heap.size u0 W) => tabP.get (pt0_step HG.out.now k) HS.out.now (s.at_ : Int)
      rw [HV.out, HF.out] at HGET
      clear hq HM0 HG0
      rename_i Kc hKc
      refine wp_region_invG (fun a0 l a W => l.size = 15 ∧ a0.tmps.size = 65 ∧ Below u0.heap.size u0 W ∧ ∃ (z : Nat), (l.getD 12 false = true → BoxF l 13 W u0.heap.size z #[.int .u64 0, .int .u32 0] #[.int .u64 (ga : Int), .int .u32 (gx : Int)] 99) ∧ (l.getD 13 false = true → l.getD 12 false = true) ∧ FrU a0 (kv ([(0, 9), (1, 10), (2, 11), (3, 12), (4, 13), (5, 14), (6, 15), (7, 16), (8, 17), (9, 8), (10, 18), (11, 19), (12, 3), (14, 4)] : List (Nat × Nat)) (fun i => ([.pointer (some ⟨p, 0, none⟩), .pointer (some ⟨p, 0, none⟩), .pointer (some ⟨p, 1, none⟩), .pointer (some ⟨pn, 0, none⟩), .pointer (some ⟨p, 0, none⟩), .pointer (some ⟨p, 0, none⟩), .pointer (some ⟨p, 3, none⟩), .int .i64 (s.at_ : Int), .tuple #[.agg #[.int .u64 (ga : Int), .int .u32 (gx : Int)], .bool false], .tuple #[.agg #[.int .u64 (ga : Int), .int .u32 (gx : Int)], .bool false], .agg #[.int .u64 (ga : Int), .int .u32 (gx : Int)], .bool false, .pointer (some ⟨z, 0, none⟩), undef, .bool false][i]?).getD undef)) l a) ?_ ?_ ?_ ?_ ?_ ?_
      · kernel_rfl
      · exact fun _ _ _ h => h.1
      · kernel_rfl
      · exact ⟨by simp, rfl, (Below.refl _ _).drew, 0, (fun h => by rw [getD_none] at h; cases h), (fun h => by rw [getD_none] at h; cases h), FrU.start _ _ _⟩
      · intro l a W i5 o hI ho hn hdep
        obtain ⟨hl, hsz, hW, z, hX3, hV, hF⟩ := hI
        have x0 := X0.out W hW
        have x4 := X4.out W hW
        match i5, ho, hn with
        | 0, ho, hn =>
          simp only [List.getElem?_toArray, List.getElem?_cons_zero, Option.some.injEq] at ho
          subst ho
          refine ⟨rfl, ?_⟩
          have h0 : a.tmps[0]?.getD undef = .pointer (some ⟨p, 0, none⟩) := hF.baseK 0 rfl rfl
          exact owp_value (.pointer (some ⟨p, 0, none⟩)) (w' := W) (by clear hdep; go_simp) ⟨by simp [hl], hsz, hW, z, (fun h => ((hX3 (by rw [getD_set (by decide)] at h; exact h))).on (show 13 ≠ 0 by decide) (Below.refl _ _)), (fun h => by rw [getD_set (by decide)] at h ⊢; exact hV h), hF.putK 0 9 _ (by rw [hsz]; decide) rfl rfl⟩
        | 1, ho, hn =>
          simp only [List.getElem?_toArray, List.getElem?_cons_zero, List.getElem?_cons_succ, Option.some.injEq] at ho
          subst ho
          refine ⟨rfl, ?_⟩
          have h9 := hF.slotK (i := 0) (s := 9) (v := .pointer (some ⟨p, 0, none⟩)) rfl (hdep ⟨0, .data⟩ (by simp) rfl) rfl
          exact owp_value (.pointer (some ⟨p, 0, none⟩)) (w' := W) (by clear hdep; go_simp) ⟨by simp [hl], hsz, hW, z, (fun h => ((hX3 (by rw [getD_set (by decide)] at h; exact h))).on (show 13 ≠ 1 by decide) (Below.refl _ _)), (fun h => by rw [getD_set (by decide)] at h ⊢; exact hV h), hF.putK 1 10 _ (by rw [hsz]; decide) rfl rfl⟩
        | 2, ho, hn =>
          simp only [List.getElem?_toArray, List.getElem?_cons_zero, List.getElem?_cons_succ, Option.some.injEq] at ho
          subst ho
          refine ⟨rfl, ?_⟩
          have h10 := hF.slotK (i := 1) (s := 10) (v := .pointer (some ⟨p, 0, none⟩)) rfl (hdep ⟨1, .data⟩ (by simp) rfl) rfl
          exact owp_value (.pointer (some ⟨p, 1, none⟩)) (w' := W) (by clear hdep; go_simp) ⟨by simp [hl], hsz, hW, z, (fun h => ((hX3 (by rw [getD_set (by decide)] at h; exact h))).on (show 13 ≠ 2 by decide) (Below.refl _ _)), (fun h => by rw [getD_set (by decide)] at h ⊢; exact hV h), hF.putK 2 11 _ (by rw [hsz]; decide) rfl rfl⟩
        | 3, ho, hn =>
          simp only [List.getElem?_toArray, List.getElem?_cons_zero, List.getElem?_cons_succ, Option.some.injEq] at ho
          subst ho
          refine ⟨rfl, ?_⟩
          have h11 := hF.slotK (i := 2) (s := 11) (v := .pointer (some ⟨p, 1, none⟩)) rfl (hdep ⟨2, .data⟩ (by simp) rfl) rfl
          exact owp_value (.pointer (some ⟨pn, 0, none⟩)) (w' := W) (by clear hdep; go_simp) ⟨by simp [hl], hsz, hW, z, (fun h => ((hX3 (by rw [getD_set (by decide)] at h; exact h))).on (show 13 ≠ 3 by decide) (Below.refl _ _)), (fun h => by rw [getD_set (by decide)] at h ⊢; exact hV h), hF.putK 3 12 _ (by rw [hsz]; decide) rfl rfl⟩
        | 4, ho, hn =>
          simp only [List.getElem?_toArray, List.getElem?_cons_zero, List.getElem?_cons_succ, Option.some.injEq] at ho
          subst ho
          refine ⟨rfl, ?_⟩
          have h0 : a.tmps[0]?.getD undef = .pointer (some ⟨p, 0, none⟩) := hF.baseK 0 rfl rfl
          exact owp_value (.pointer (some ⟨p, 0, none⟩)) (w' := W) (by clear hdep; go_simp) ⟨by simp [hl], hsz, hW, z, (fun h => ((hX3 (by rw [getD_set (by decide)] at h; exact h))).on (show 13 ≠ 4 by decide) (Below.refl _ _)), (fun h => by rw [getD_set (by decide)] at h ⊢; exact hV h), hF.putK 4 13 _ (by rw [hsz]; decide) rfl rfl⟩
        | 5, ho, hn =>
          simp only [List.getElem?_toArray, List.getElem?_cons_zero, List.getElem?_cons_succ, Option.some.injEq] at ho
          subst ho
          refine ⟨rfl, ?_⟩
          have h13 := hF.slotK (i := 4) (s := 13) (v := .pointer (some ⟨p, 0, none⟩)) rfl (hdep ⟨4, .data⟩ (by simp) rfl) rfl
          exact owp_value (.pointer (some ⟨p, 0, none⟩)) (w' := W) (by clear hdep; go_simp) ⟨by simp [hl], hsz, hW, z, (fun h => ((hX3 (by rw [getD_set (by decide)] at h; exact h))).on (show 13 ≠ 5 by decide) (Below.refl _ _)), (fun h => by rw [getD_set (by decide)] at h ⊢; exact hV h), hF.putK 5 14 _ (by rw [hsz]; decide) rfl rfl⟩
        | 6, ho, hn =>
          simp only [List.getElem?_toArray, List.getElem?_cons_zero, List.getElem?_cons_succ, Option.some.injEq] at ho
          subst ho
          refine ⟨rfl, ?_⟩
          have h14 := hF.slotK (i := 5) (s := 14) (v := .pointer (some ⟨p, 0, none⟩)) rfl (hdep ⟨5, .data⟩ (by simp) rfl) rfl
          exact owp_value (.pointer (some ⟨p, 3, none⟩)) (w' := W) (by clear hdep; go_simp) ⟨by simp [hl], hsz, hW, z, (fun h => ((hX3 (by rw [getD_set (by decide)] at h; exact h))).on (show 13 ≠ 6 by decide) (Below.refl _ _)), (fun h => by rw [getD_set (by decide)] at h ⊢; exact hV h), hF.putK 6 15 _ (by rw [hsz]; decide) rfl rfl⟩
        | 7, ho, hn =>
          simp only [List.getElem?_toArray, List.getElem?_cons_zero, List.getElem?_cons_succ, Option.some.injEq] at ho
          subst ho
          refine ⟨rfl, ?_⟩
          have h15 := hF.slotK (i := 6) (s := 15) (v := .pointer (some ⟨p, 3, none⟩)) rfl (hdep ⟨6, .data⟩ (by simp) rfl) rfl
          exact owp_value (.int .i64 (s.at_ : Int)) (w' := W) (by clear hdep; go_simp) ⟨by simp [hl], hsz, hW, z, (fun h => ((hX3 (by rw [getD_set (by decide)] at h; exact h))).on (show 13 ≠ 7 by decide) (Below.refl _ _)), (fun h => by rw [getD_set (by decide)] at h ⊢; exact hV h), hF.putK 7 16 _ (by rw [hsz]; decide) rfl rfl⟩
        | 8, ho, hn =>
          simp only [List.getElem?_toArray, List.getElem?_cons_zero, List.getElem?_cons_succ, Option.some.injEq] at ho
          subst ho
          refine ⟨rfl, ?_⟩
          have h12 := hF.slotK (i := 3) (s := 12) (v := .pointer (some ⟨pn, 0, none⟩)) rfl (hdep ⟨3, .data⟩ (by simp) rfl) rfl
          have h16 := hF.slotK (i := 7) (s := 16) (v := .int .i64 (s.at_ : Int)) rfl (hdep ⟨7, .data⟩ (by simp) rfl) rfl
          refine owp_call (fn := 100) (args := #[.pointer (some ⟨pn, 0, none⟩), .int .i64 (s.at_ : Int)]) (by clear hdep; go_simp) ?_
          refine (HGET.out W hW).mono ?_
          rintro e w' ⟨rfl, hb⟩
          exact ⟨_, rfl, by simp [hl], hsz, hW.trans (hb.mono hW.size), z, (fun h => ((hX3 (by rw [getD_set (by decide)] at h; exact h))).on (show 13 ≠ 8 by decide) hb), (fun h => by rw [getD_set (by decide)] at h ⊢; exact hV h), hF.putK 8 17 _ (by rw [hsz]; decide) rfl rfl⟩
        | 9, ho, hn =>
          simp only [List.getElem?_toArray, List.getElem?_cons_zero, List.getElem?_cons_succ, Option.some.injEq] at ho
          subst ho
          refine ⟨rfl, ?_⟩
          have h17 := hF.slotK (i := 8) (s := 17) (v := .tuple #[.agg #[.int .u64 (ga : Int), .int .u32 (gx : Int)], .bool false]) rfl (hdep ⟨8, .data⟩ (by simp) rfl) rfl
          exact owp_value (.tuple #[.agg #[.int .u64 (ga : Int), .int .u32 (gx : Int)], .bool false]) (w' := W) (by clear hdep; go_simp) ⟨by simp [hl], hsz, hW, z, (fun h => ((hX3 (by rw [getD_set (by decide)] at h; exact h))).on (show 13 ≠ 9 by decide) (Below.refl _ _)), (fun h => by rw [getD_set (by decide)] at h ⊢; exact hV h), hF.putK 9 8 _ (by rw [hsz]; decide) rfl rfl⟩
        | 10, ho, hn =>
          simp only [List.getElem?_toArray, List.getElem?_cons_zero, List.getElem?_cons_succ, Option.some.injEq] at ho
          subst ho
          refine ⟨rfl, ?_⟩
          have h8 := hF.slotK (i := 9) (s := 8) (v := .tuple #[.agg #[.int .u64 (ga : Int), .int .u32 (gx : Int)], .bool false]) rfl (hdep ⟨9, .data⟩ (by simp) rfl) rfl
          exact owp_value (.agg #[.int .u64 (ga : Int), .int .u32 (gx : Int)]) (w' := W) (by clear hdep; go_simp) ⟨by simp [hl], hsz, hW, z, (fun h => ((hX3 (by rw [getD_set (by decide)] at h; exact h))).on (show 13 ≠ 10 by decide) (Below.refl _ _)), (fun h => by rw [getD_set (by decide)] at h ⊢; exact hV h), hF.putK 10 18 _ (by rw [hsz]; decide) rfl rfl⟩
        | 11, ho, hn =>
          simp only [List.getElem?_toArray, List.getElem?_cons_zero, List.getElem?_cons_succ, Option.some.injEq] at ho
          subst ho
          refine ⟨rfl, ?_⟩
          have h8 := hF.slotK (i := 9) (s := 8) (v := .tuple #[.agg #[.int .u64 (ga : Int), .int .u32 (gx : Int)], .bool false]) rfl (hdep ⟨9, .data⟩ (by simp) rfl) rfl
          exact owp_value (.bool false) (w' := W) (by clear hdep; go_simp) ⟨by simp [hl], hsz, hW, z, (fun h => ((hX3 (by rw [getD_set (by decide)] at h; exact h))).on (show 13 ≠ 11 by decide) (Below.refl _ _)), (fun h => by rw [getD_set (by decide)] at h ⊢; exact hV h), hF.putK 11 19 _ (by rw [hsz]; decide) rfl rfl⟩
        | 12, ho, hn =>
          simp only [List.getElem?_toArray, List.getElem?_cons_zero, List.getElem?_cons_succ, Option.some.injEq] at ho
          subst ho
          refine ⟨rfl, ?_⟩
          have hb := below_alloc W (.cells #[.int .u64 0, .int .u32 0] 99)
          refine owp_value (.pointer (some ⟨W.heap.size, 0, none⟩)) (w' := W.alloc (.cells #[.int .u64 0, .int .u32 0] 99)) (by clear hdep; go_simp) ?_
          have hF2 := hF.swapQ (V' := (fun i => ([.pointer (some ⟨p, 0, none⟩), .pointer (some ⟨p, 0, none⟩), .pointer (some ⟨p, 1, none⟩), .pointer (some ⟨pn, 0, none⟩), .pointer (some ⟨p, 0, none⟩), .pointer (some ⟨p, 0, none⟩), .pointer (some ⟨p, 3, none⟩), .int .i64 (s.at_ : Int), .tuple #[.agg #[.int .u64 (ga : Int), .int .u32 (gx : Int)], .bool false], .tuple #[.agg #[.int .u64 (ga : Int), .int .u32 (gx : Int)], .bool false], .agg #[.int .u64 (ga : Int), .int .u32 (gx : Int)], .bool false, .pointer (some ⟨W.heap.size, 0, none⟩), undef, .bool false][i]?).getD undef)) 12 hn (fun q hq => by
            match q with
            | 0 => rfl
            | 1 => rfl
            | 2 => rfl
            | 3 => rfl
            | 4 => rfl
            | 5 => rfl
            | 6 => rfl
            | 7 => rfl
            | 8 => rfl
            | 9 => rfl
            | 10 => rfl
            | 11 => rfl
            | 12 => exact absurd rfl hq
            | 13 => rfl
            | 14 => rfl
            | q + 15 => rfl)
          have h13 : l.getD 13 false = false := by
            cases e : l.getD 13 false with
            | false => rfl
            | true => exact absurd (hV e) (by rw [getD_tf hn]; exact Bool.false_ne_true)
          exact ⟨by simp [hl], hsz, hW.trans (hb.mono hW.size), W.heap.size, (fun _ => BoxF.new h13 (by decide) hW.size), (fun _ => getD_set_self hn), hF2.putK 12 3 _ (by rw [hsz]; decide) rfl rfl⟩
        | 13, ho, hn =>
          simp only [List.getElem?_toArray, List.getElem?_cons_zero, List.getElem?_cons_succ, Option.some.injEq] at ho
          subst ho
          refine ⟨rfl, ?_⟩
          have h3 := hF.slotK (i := 12) (s := 3) (v := .pointer (some ⟨z, 0, none⟩)) rfl (hdep ⟨12, .data⟩ (by simp) rfl) rfl
          have h18 := hF.slotK (i := 10) (s := 18) (v := .agg #[.int .u64 (ga : Int), .int .u32 (gx : Int)]) rfl (hdep ⟨10, .data⟩ (by simp) rfl) rfl
          have h3 := hF.slotK (i := 12) (s := 3) (v := .pointer (some ⟨z, 0, none⟩)) rfl (hdep ⟨12, .data⟩ (by simp) rfl) rfl
          have h20 := hF.slotK (i := 10) (s := 18) (v := .agg #[.int .u64 (ga : Int), .int .u32 (gx : Int)]) rfl (hdep ⟨10, .data⟩ (by simp) rfl) rfl
          have hx := hX3 (hdep ⟨12, .data⟩ (by simp) rfl)
          obtain ⟨hx1, hx2⟩ := hx.put hn
          refine wp_store_row 99 (.tmp 3) (.tmp 18) rfl z #[.int .u64 (ga : Int), .int .u32 (gx : Int)] (by show a.tmps.getD 3 undef = _; rw [Array.getD_eq_getD_getElem?]; exact h3) (by show a.tmps.getD 18 undef = _; rw [Array.getD_eq_getD_getElem?]; exact h20) 99 #[.int .u64 0, .int .u32 0] hx1 (by kernel_rfl) rfl (by simp [Value.oneCell']) ?_
          exact ⟨by simp [hl], hsz, below_setRow hW hx.1 _, z, (fun _ => hx2), (fun _ => by rw [getD_set (by decide)]; exact hdep ⟨12, .data⟩ (by simp) rfl), hF.skipK 13 (by decide)⟩
        | 14, ho, hn =>
          simp only [List.getElem?_toArray, List.getElem?_cons_zero, List.getElem?_cons_succ, Option.some.injEq] at ho
          subst ho
          refine ⟨rfl, ?_⟩
          have h19 := hF.slotK (i := 11) (s := 19) (v := .bool false) rfl (hdep ⟨11, .data⟩ (by simp) rfl) rfl
          exact owp_value (.bool false) (w' := W) (by clear hdep; go_simp) ⟨by simp [hl], hsz, hW, z, (fun h => ((hX3 (by rw [getD_set (by decide)] at h; exact h))).on (show 13 ≠ 14 by decide) (Below.refl _ _)), (fun h => by rw [getD_set (by decide)] at h ⊢; exact hV h), hF.putK 14 4 _ (by rw [hsz]; decide) rfl rfl⟩
        | i5 + 15, ho, hn => simp at ho
      · intro l a W1 hI hall
        obtain ⟨_, _, hW1, z, hX3, hV, hF⟩ := hI
        have hall : ∀ i, i < 15 → l.getD i false = true := hall
        have ha := FrU.allQ (K := ([(0, 9), (1, 10), (2, 11), (3, 12), (4, 13), (5, 14), (6, 15), (7, 16), (8, 17), (9, 8), (10, 18), (11, 19), (12, 3), (14, 4)] : List (Nat × Nat))) (V := (fun i => ([.pointer (some ⟨p, 0, none⟩), .pointer (some ⟨p, 0, none⟩), .pointer (some ⟨p, 1, none⟩), .pointer (some ⟨pn, 0, none⟩), .pointer (some ⟨p, 0, none⟩), .pointer (some ⟨p, 0, none⟩), .pointer (some ⟨p, 3, none⟩), .int .i64 (s.at_ : Int), .tuple #[.agg #[.int .u64 (ga : Int), .int .u32 (gx : Int)], .bool false], .tuple #[.agg #[.int .u64 (ga : Int), .int .u32 (gx : Int)], .bool false], .agg #[.int .u64 (ga : Int), .int .u32 (gx : Int)], .bool false, .pointer (some ⟨z, 0, none⟩), undef, .bool false][i]?).getD undef)) (BL := ([(0, 9, .pointer (some ⟨p, 0, none⟩)), (1, 10, .pointer (some ⟨p, 0, none⟩)), (2, 11, .pointer (some ⟨p, 1, none⟩)), (3, 12, .pointer (some ⟨pn, 0, none⟩)), (4, 13, .pointer (some ⟨p, 0, none⟩)), (5, 14, .pointer (some ⟨p, 0, none⟩)), (6, 15, .pointer (some ⟨p, 3, none⟩)), (7, 16, .int .i64 (s.at_ : Int)), (8, 17, .tuple #[.agg #[.int .u64 (ga : Int), .int .u32 (gx : Int)], .bool false]), (9, 8, .tuple #[.agg #[.int .u64 (ga : Int), .int .u32 (gx : Int)], .bool false]), (10, 18, .agg #[.int .u64 (ga : Int), .int .u32 (gx : Int)]), (11, 19, .bool false), (12, 3, .pointer (some ⟨z, 0, none⟩)), (14, 4, .bool false)] : List (Nat × Nat × Value))) hF rfl (n := 15) hall rfl
        subst ha
        have HW1 := Lib.hid hW1
        have HX3 := Lib.hid (hX3 (hall 12 (by decide)))
        have HL13 := Lib.hid (hall 13 (by decide))
        clear hF hall hW1 hV hX3
        refine hKc _ _ ?_
        simp only [setAll, List.setIfInBounds_toArray, List.set_cons_succ, List.set_cons_zero]
        have HR4 : Hid (W1.heap[z]? = some (.cells #[.int .u64 (ga : Int), .int .u32 (gx : Int)] 99 (0, 0))) := Lib.hid (by
          have h := HX3.out.2
          rw [HL13.out] at h
          exact h)
        have HRL := Lib.hid HX3.out.1
        have HG4 := Lib.hid (HG.out.step HW1.out)
        have HB4 := HW1
        clear HX3 HL13 HW1 X0 X4
        generalize W1 = v4 at *
        generalize z = r at *
        have HM1 : Hid (s.moved.mv = true) := Lib.hid ((Gr.moved_mv s).trans HMV.out)
        have HN1 : Hid (s.moved.now.n = n) := Lib.hid ((Gr.moved_n s).trans HN.out.symm)
        have HA1 : Hid (at_ = s.moved.at_) := Lib.hid (HA.out.trans (Gr.moved_at s).symm)
        have HO1 : Hid (s.moved.now.Ok) := Lib.hid (Gr.ok_moved HS.out HMV.out).now
        have HS1 : Hid (s.moved = s) := Lib.hid (by unfold Gr.moved; rw [if_neg (by rw [HF.out]; exact Bool.false_ne_true)])
        have HGn : Hid (PGY v4 p pn px s.moved F Fn Fx) := Lib.hid (by rw [HS1.out]; exact HG4.out)
        have HXn : Hid (ExtG F F u0 v4) := Lib.hid (ExtG.of_below HB4.out)
        clear HS1 HG4 HR4 HB4 HRL
        have hq := HGn.out.blk
        rw [HM1.out, if_pos rfl] at hq
        have x3 : v4.cell? ⟨p, 3, none⟩ = some (.int .i64 (at_ : Int)) := by rw [HA1.out]; exact blk_cell hq 3
        have f3 := blk_free hq 3
        have HQa := Lib.hid hq
        clear hq
        go_upto_region 8 with fail
        have HQb : Hid ((v4.setCell ⟨p, 3, none⟩ (.int .i64 ((at_ : Int) + 1))).heap[p]? = some (.cells #[.int .i64 (s.moved.most : Int), .pointer (some ⟨pn, 0, none⟩), .pointer (some ⟨px, 0, none⟩), .int .i64 ((at_ : Int) + 1)] 131 (0, 0))) := Lib.hid (blk_set HQa.out 3 _)
        have HKb : Hid (Kept (fun k => k = p) v4 (v4.setCell ⟨p, 3, none⟩ (.int .i64 ((at_ : Int) + 1)))) := Lib.hid ((Kept.refl (fun k => k = p) v4).setCell (p := ⟨p, 3, none⟩) (.inl rfl) _)
        clear x3 f3 HQa
        generalize v4.setCell ⟨p, 3, none⟩ (.int .i64 ((at_ : Int) + 1)) = va at *
        have HGb := Lib.hid (HGn.out.turn HKb.out (s' := ⟨s.moved.now, s.moved.next, true, s.moved.most, at_ + 1⟩) HQb.out rfl rfl fun _ => ⟨HM1.out, rfl⟩)
        have HPL : Hid (∀ W, Below va.heap.size va W → Calls Tryz.prog 103 #[.pointer (some ⟨pn, 0, none⟩)] W (ret (.int .i64 (n : Int)) W)) := Lib.hid fun W k => by
          have h := tabP.places (pt0_step HGb.out.1.now k) HO1.out
          rwa [show (⟨s.moved.now, s.moved.next, true, s.moved.most, at_ + 1⟩ : Gr).now.n = n from HN1.out] at h
        have z1 : ∀ W : Stay va, W.w.cell? ⟨p, 1, none⟩ = some (.pointer (some ⟨pn, 0, none⟩)) := fun W => Stay.cell (blk_cell HQb.out 1) W
        have z3 : ∀ W : Stay va, W.w.cell? ⟨p, 3, none⟩ = some (.int .i64 ((at_ : Int) + 1)) := fun W => Stay.cell (blk_cell HQb.out 3) W
        refine wp_region_stay (by kernel_rfl) (by kernel_rfl) ?_
        repeat (go_big_quiet_step (first | (go_at_call 103; with_reducible exact Calls.stay _ (HPL.out _ (Stay.below _)))))
        refine wpQuiet_nil ?_
        intro w' hw'
        obtain ⟨W, rfl⟩ := hw'
        have HGc := Lib.hid (HGb.out.1.step W.below)
        have HXc := Lib.hid ((HXn.out.trans HGb.out.2).trans (ExtG.of_below W.below))
        have HQc : Hid (W.w.heap[p]? = some (.cells #[.int .i64 (s.moved.most : Int), .pointer (some ⟨pn, 0, none⟩), .pointer (some ⟨px, 0, none⟩), .int .i64 ((at_ : Int) + 1)] 131 (0, 0))) := Lib.hid ((W.below.block p (lt_heap HQb.out)).trans HQb.out)
        clear z1 z3 HGb HKb HQb HPL
        generalize W.w = vc at *
        by_cases ce : at_ + 1 = n
        · have ce' : (at_ : Int) + 1 = (n : Int) := by omega
          have HC := Lib.hid ce
          have y2 : vc.cell? ⟨p, 2, none⟩ = some (.pointer (some ⟨px, 0, none⟩)) := blk_cell HQc.out 2
          have y1 : vc.cell? ⟨p, 1, none⟩ = some (.pointer (some ⟨pn, 0, none⟩)) := blk_cell HQc.out 1
          have g1 := blk_free HQc.out 1
          have HQd : Hid ((vc.setCell ⟨p, 1, none⟩ (.pointer (some ⟨px, 0, none⟩))).heap[p]? = some (.cells #[.int .i64 (s.moved.most : Int), .pointer (some ⟨px, 0, none⟩), .pointer (some ⟨px, 0, none⟩), .int .i64 ((at_ : Int) + 1)] 131 (0, 0))) := Lib.hid (blk_set HQc.out 1 _)
          have HKd : Hid (Kept (fun k => k = p) vc (vc.setCell ⟨p, 1, none⟩ (.pointer (some ⟨px, 0, none⟩)))) := Lib.hid ((Kept.refl (fun k => k = p) vc).setCell (p := ⟨p, 1, none⟩) (.inl rfl) _)
          have y2d := blk_cell HQd.out 2
          have g2d := blk_free HQd.out 2
          clear ce
          go_upto_region 10 with fail
          have HQe : Hid (((vc.setCell ⟨p, 1, none⟩ (.pointer (some ⟨px, 0, none⟩))).setCell ⟨p, 2, none⟩ (.pointer none)).heap[p]? = some (.cells #[.int .i64 (s.moved.most : Int), .pointer (some ⟨px, 0, none⟩), .pointer none, .int .i64 ((at_ : Int) + 1)] 131 (0, 0))) := Lib.hid (blk_set HQd.out 2 _)
          have HKe := Lib.hid (HKd.out.setCell (p := ⟨p, 2, none⟩) (.inl rfl) (.pointer none))
          clear y1 y2 g1 y2d g2d
          generalize (vc.setCell ⟨p, 1, none⟩ (.pointer (some ⟨px, 0, none⟩))).setCell ⟨p, 2, none⟩ (.pointer none) = ve at *
          have HEN := Lib.hid (HGc.out.ended rfl HKe.out (at' := at_ + 1) HQe.out)
          have HMV2 := Lib.hid HEN.out.1.moves
          go_wp2_with (first
            | (go_at_call 99
               refine HMV2.out.mono ?_
               rintro e v9 ⟨rfl, hb⟩
               have HB9 := Lib.hid hb
               clear hb))
          go_ret
          have hst : s.st = ⟨s.moved.next, s.moved.next, false, s.moved.most, at_ + 1⟩ := by
            unfold Gr.st
            rw [HMV.out, if_pos rfl]
            unfold Gr.on
            rw [← HA1.out, HN1.out, if_pos HC.out]
          rw [hst]
          exact ⟨rfl, _, ⟨_, _, _, _, HEN.out.1.step HB9.out⟩, ((ExtG.of_below HB0.out).trans HXc.out).trans (HEN.out.2.trans (ExtG.of_below HB9.out))⟩
        · have ce' : ¬ (at_ : Int) + 1 = (n : Int) := by omega
          have HC := Lib.hid ce
          have HMV2 := Lib.hid HGc.out.moves
          clear ce
          go_wp2_with (first
            | (go_at_call 99
               refine HMV2.out.mono ?_
               rintro e v9 ⟨rfl, hb⟩
               have HB9 := Lib.hid hb
               clear hb))
          go_ret
          have hst : s.st = ⟨s.moved.now, s.moved.next, true, s.moved.most, at_ + 1⟩ := by
            unfold Gr.st
            rw [HMV.out, if_pos rfl]
            unfold Gr.on
            rw [← HA1.out, HN1.out, if_neg HC.out, HM1.out]
          rw [hst]
          exact ⟨rfl, _, ⟨_, _, _, _, HGc.out.step HB9.out⟩, ((ExtG.of_below HB0.out).trans HXc.out).trans (ExtG.of_below HB9.out)⟩
end
end Go.Proofs.YtimcdnbfdkpffaaGreat
