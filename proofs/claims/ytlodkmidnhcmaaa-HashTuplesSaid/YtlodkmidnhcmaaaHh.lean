/- Stage 12: HashTuples. -/
import Derived.Test.YtlodkmidnhcmaaaHg
namespace Go.Proofs.Ytlodkmidnhcmaaa
set_option maxRecDepth 100000
open Go.RowKit Go.Shelf
def tupz : Array Value := tupc false 0 (fun _ => 0) (fun _ => 0) 0 0
theorem MO.keepOn {w W W' : World} {L : List (Nat × Obj)} {B : Nat} {A : Option Addr} {n c : Nat} {f : Nat → Int} (h : MO w W L B A n c f) (hb : Below W.heap.size W W') : MO w W' L B A n c f := h.step hb
set_option maxHeartbeats 2000000 in
theorem htuples_true (H : HashP) (HTT : HashT) (pr : Int) (s d : Nat → Int) (sp dp : Int) (hp : 0 ≤ pr ∧ pr ≤ 255) (hs : Byt s) (hd : Byt d) (h1 : 0 ≤ sp ∧ sp ≤ 65535) (h2 : 0 ≤ dp ∧ dp ≤ 65535) (oo : Nat) (_hoo : oo < 256) (w : World) : Calls Try.prog 4 #[.agg (tupc true pr s d sp dp), .int .u8 (oo : Int)] w (ret (.bool true) w) := by
  have HK := Lib.hid (known_any H)
  have HT := Lib.hid HTT
  have HI36 : Hid ((Try.prog.info? 33).map (·.size) = some 36) := Lib.hid (by kernel_rfl)
  have HBY : Hid (∀ W : World, Calls Try.prog 15 #[.agg (tupc true pr s d sp dp)] W fun e w' => ∃ A c, e = .returned (.slice A 38 c) ∧ Own w' W.heap.size 5 A 38 c (tupB true pr s d sp dp) ∧ Below W.heap.size W w') := Lib.hid fun W => HTT.bytes true pr s d sp dp hp hs hd h1 h2 W
  have HRBY : Hid (∀ W : World, Calls Try.prog 16 #[.agg (tupc true pr s d sp dp)] W fun e w' => ∃ A c, e = .returned (.slice A 38 c) ∧ Own w' W.heap.size 5 A 38 c (tupB true pr s d sp dp) ∧ Below W.heap.size W w') := Lib.hid fun W => rbytes_any true pr s d sp dp h1 h2 W
  have HTU : Hid (∀ W : World, Calls Try.prog 17 #[.agg (tupc true pr s d sp dp)] W (ret (.int .u64 ((seedN 0 (nb (tupB true pr s d sp dp)) 38 : Nat) : Int)) W)) := Lib.hid fun W => HTT.tuple true pr s d sp dp hp hs hd h1 h2 W
  have HRTU : Hid (∀ W : World, Calls Try.prog 18 #[.agg (tupc true pr s d sp dp)] W (ret (.int .u64 ((seedN 0 (nb (tupB true pr s d sp dp)) 38 : Nat) : Int)) W)) := Lib.hid fun W => rtuple_any true pr s d sp dp hp hs hd h1 h2 W
  obtain ⟨H9, hH9⟩ : ∃ x, x = seedN 0 (nb (tupB true pr s d sp dp)) 38 := ⟨_, rfl⟩
  obtain ⟨f0, hf0⟩ : ∃ f, f = tupB true pr s d sp dp := ⟨_, rfl⟩
  obtain ⟨C, hC⟩ : ∃ C, C = tupc true pr s d sp dp := ⟨_, rfl⟩
  rw [← hH9] at HTU HRTU
  rw [← hf0] at HBY HRBY hH9
  rw [← hC] at HTU HRTU HBY HRBY ⊢
  have HH9 := Lib.hid hH9
  have HF0 := Lib.hid hf0
  have HC := Lib.hid hC
  have HSZ : Hid (C.size = 36) := Lib.hid (by rw [hC]; rfl)
  have HO1 : Hid (C.all (·.oneCell') = true) := Lib.hid (by rw [hC]; exact tup_one ..)
  obtain ⟨S9, hS9⟩ : ∃ S, S = strOfNums (nums 38 f0) := ⟨_, rfl⟩
  have HS9 := Lib.hid hS9
  clear hH9 hf0 hC hS9 H HTT
  have HM1 : Hid (Mem w (w.alloc (.cells C 33)) [(w.heap.size, .cells C 33)]) := Lib.hid ((Mem.nil w).alloc _)
  go_enter Try.func4, Try.ntmps4
  go_upto_region 1 with fail
  change Code.wp _ _ _ _ (w.alloc (.cells C 33))
  obtain ⟨b2, hb2⟩ : ∃ b, b = w.heap.size := ⟨_, rfl⟩
  rw [← hb2] at HM1 ⊢
  clear hb2
  generalize w.alloc (.cells C 33) = u1 at *
  have HX1_ := Lib.hid (HM1.out.get 0 rfl)
  go_upto_region 2 with (first
    | (refine wpList_load_row rfl 33 (.tmp 2) rfl b2 rfl 33 C (0, 0) _ HX1_.out Try.underlying33 rfl (HI36.out.trans (by rw [HSZ.out])) ?_)
    | (go_at_call 15
       refine (HBY.out _).mono ?_
       rintro e u3 ⟨A, c, rfl, ho, hb3⟩
       have HO4 : Hid (MO w u3 [(b2, .cells C 33)] u1.heap.size A 38 c f0) := Lib.hid (MO.start HM1.out hb3 ho)
       clear ho hb3))
  obtain ⟨B, hB⟩ : ∃ B, B = u1.heap.size := ⟨_, rfl⟩
  rw [← hB] at HO4
  have HBX := Lib.hid (HO4.out.mem.get 0 rfl)
  have HRB := Lib.hid HO4.out.own.rd
  clear hB HX1_ HM1
  rename_i Kc hKc
  refine wp_region_invG (fun a0 l a W => l.size = 13 ∧ a0.tmps.size = 78 ∧ Below u3.heap.size u3 W ∧ ∃ (A2 : Option Addr) (c2 : Nat), (l.getD 3 false = true → Rd W W.heap.size A2 38 f0) ∧ FrU a0 (kv ([(0, 10), (1, 11), (2, 12), (3, 13), (4, 14), (5, 15), (6, 16), (7, 17), (8, 18), (9, 19), (10, 20), (11, 21), (12, 22)] : List (Nat × Nat)) (fun i => ([.slice A 38 c, .string S9, .agg C, .slice A2 38 c2, .string S9, .bool false, .bool false, .agg C, .int .u64 ((H9 : Nat) : Int), .agg C, .int .u64 ((H9 : Nat) : Int), .bool false, .bool false][i]?).getD undef)) l a) ?_ ?_ ?_ ?_ ?_ ?_
  · kernel_rfl
  · exact fun _ _ _ h => h.1
  · kernel_rfl
  · exact ⟨by simp, rfl, (Below.refl _ _).drew, none, 0, (fun h => by rw [getD_none] at h; cases h), FrU.start _ _ _⟩
  · intro l a W i5 o hI ho hn hdep
    obtain ⟨hl, hsz, hW, A2, c2, hR13, hF⟩ := hI

    match i5, ho, hn with
    | 0, ho, hn =>
      simp only [List.getElem?_toArray, List.getElem?_cons_zero, Option.some.injEq] at ho
      subst ho
      refine ⟨rfl, ?_⟩
      have h5 : a.tmps[5]?.getD undef = .slice A 38 c := hF.baseK 5 rfl rfl
      exact owp_value (.slice A 38 c) (w' := W) (by clear hdep; go_simp) ⟨by simp [hl], hsz, hW, A2, c2, (fun h => hR13 (by rw [getD_set (by decide)] at h; exact h)), hF.putK 0 10 _ (by rw [hsz]; decide) rfl rfl⟩
    | 1, ho, hn =>
      simp only [List.getElem?_toArray, List.getElem?_cons_zero, List.getElem?_cons_succ, Option.some.injEq] at ho
      subst ho
      refine ⟨rfl, ?_⟩
      have h10 := hF.slotK (i := 0) (s := 10) (v := .slice A 38 c) rfl (hdep ⟨0, .data⟩ (by simp) rfl) rfl
      have hcv := run_convert_rd (P := Try.prog) (HRB.out.keep hW) 23 5 9 c Try.underlying23 Try.underlying5 Try.underlying9
      rw [← HS9.out] at hcv
      refine owp_value (.string S9) (w' := W) (by clear hdep; go_simp) ⟨by simp [hl], hsz, hW, A2, c2, (fun h => hR13 (by rw [getD_set (by decide)] at h; exact h)), hF.putK 1 11 _ (by rw [hsz]; decide) rfl rfl⟩
    | 2, ho, hn =>
      simp only [List.getElem?_toArray, List.getElem?_cons_zero, List.getElem?_cons_succ, Option.some.injEq] at ho
      subst ho
      refine ⟨rfl, ?_⟩
      have h2 : a.tmps[2]?.getD undef = .pointer (some ⟨b2, 0, none⟩) := hF.baseK 2 rfl rfl
      have hld := run_loadVar_row W b2 33 33 C (0, 0) _ ((hW.block _ (lt_heap HBX.out)).trans HBX.out) Try.underlying33 rfl (HI36.out.trans (by rw [HSZ.out]))
      refine owp_value (.agg C) (w' := W) ?_ ⟨by simp [hl], hsz, hW, A2, c2, (fun h => hR13 (by rw [getD_set (by decide)] at h; exact h)), hF.putK 2 12 _ (by rw [hsz]; decide) rfl rfl⟩
      clear hdep
      simp only [execOp, Act.eval, Array.getD_eq_getD_getElem?, h2, Instr.loadAt, Instr.sureAddr, Sem.run_bind, Sem.run_pure, Result.andThen_ok, hld]
      all_goals rfl
    | 3, ho, hn =>
      simp only [List.getElem?_toArray, List.getElem?_cons_zero, List.getElem?_cons_succ, Option.some.injEq] at ho
      subst ho
      refine ⟨rfl, ?_⟩
      have h12 := hF.slotK (i := 2) (s := 12) (v := .agg C) rfl (hdep ⟨2, .data⟩ (by simp) rfl) rfl
      refine owp_call (fn := 16) (args := #[.agg C]) (by clear hdep; go_simp) ?_
      refine (HRBY.out W).mono ?_
      rintro e w' ⟨A29, c29, rfl, hown, hb⟩
      have hrd := hown.rd
      have hF2 := hF.swapK (V' := (fun i => ([.slice A 38 c, .string S9, .agg C, .slice A29 38 c29, .string S9, .bool false, .bool false, .agg C, .int .u64 ((H9 : Nat) : Int), .agg C, .int .u64 ((H9 : Nat) : Int), .bool false, .bool false][i]?).getD undef)) 3 hn (fun q hq => by
        match q with
        | 0 => rfl
        | 1 => rfl
        | 2 => rfl
        | 3 => exact absurd rfl hq
        | 4 => rfl
        | 5 => rfl
        | 6 => rfl
        | 7 => rfl
        | 8 => rfl
        | 9 => rfl
        | 10 => rfl
        | 11 => rfl
        | 12 => rfl
        | q + 13 => rfl)
      exact ⟨_, rfl, by simp [hl], hsz, hW.trans (hb.mono hW.size), A29, c29, (fun _ => hrd), hF2.putK 3 13 _ (by rw [hsz]; decide) rfl rfl⟩
    | 4, ho, hn =>
      simp only [List.getElem?_toArray, List.getElem?_cons_zero, List.getElem?_cons_succ, Option.some.injEq] at ho
      subst ho
      refine ⟨rfl, ?_⟩
      have h13 := hF.slotK (i := 3) (s := 13) (v := .slice A2 38 c2) rfl (hdep ⟨3, .data⟩ (by simp) rfl) rfl
      have hcv := run_convert_rd (P := Try.prog) (hR13 (hdep ⟨3, .data⟩ (by simp) rfl)) 23 5 9 c2 Try.underlying23 Try.underlying5 Try.underlying9
      rw [← HS9.out] at hcv
      refine owp_value (.string S9) (w' := W) (by clear hdep; go_simp) ⟨by simp [hl], hsz, hW, A2, c2, (fun h => hR13 (by rw [getD_set (by decide)] at h; exact h)), hF.putK 4 14 _ (by rw [hsz]; decide) rfl rfl⟩
    | 5, ho, hn =>
      simp only [List.getElem?_toArray, List.getElem?_cons_zero, List.getElem?_cons_succ, Option.some.injEq] at ho
      subst ho
      refine ⟨rfl, ?_⟩
      have h11 := hF.slotK (i := 1) (s := 11) (v := .string S9) rfl (hdep ⟨1, .data⟩ (by simp) rfl) rfl
      have h14 := hF.slotK (i := 4) (s := 14) (v := .string S9) rfl (hdep ⟨4, .data⟩ (by simp) rfl) rfl
      exact owp_value (.bool false) (w' := W) (by clear hdep; go_simp) ⟨by simp [hl], hsz, hW, A2, c2, (fun h => hR13 (by rw [getD_set (by decide)] at h; exact h)), hF.putK 5 15 _ (by rw [hsz]; decide) rfl rfl⟩
    | 6, ho, hn =>
      simp only [List.getElem?_toArray, List.getElem?_cons_zero, List.getElem?_cons_succ, Option.some.injEq] at ho
      subst ho
      refine ⟨rfl, ?_⟩
      have h15 := hF.slotK (i := 5) (s := 15) (v := .bool false) rfl (hdep ⟨5, .data⟩ (by simp) rfl) rfl
      exact owp_value (.bool false) (w' := W) (by clear hdep; go_simp) ⟨by simp [hl], hsz, hW, A2, c2, (fun h => hR13 (by rw [getD_set (by decide)] at h; exact h)), hF.putK 6 16 _ (by rw [hsz]; decide) rfl rfl⟩
    | 7, ho, hn =>
      simp only [List.getElem?_toArray, List.getElem?_cons_zero, List.getElem?_cons_succ, Option.some.injEq] at ho
      subst ho
      refine ⟨wanted_of (j := 6) (s := 16) (b := false) rfl rfl rfl (hF.slotK (i := 6) (s := 16) (v := .bool false) rfl (hdep ⟨6, .guard⟩ (by simp) rfl) rfl), ?_⟩
      have h2 : a.tmps[2]?.getD undef = .pointer (some ⟨b2, 0, none⟩) := hF.baseK 2 rfl rfl
      have hld := run_loadVar_row W b2 33 33 C (0, 0) _ ((hW.block _ (lt_heap HBX.out)).trans HBX.out) Try.underlying33 rfl (HI36.out.trans (by rw [HSZ.out]))
      refine owp_value (.agg C) (w' := W) ?_ ⟨by simp [hl], hsz, hW, A2, c2, (fun h => hR13 (by rw [getD_set (by decide)] at h; exact h)), hF.putK 7 17 _ (by rw [hsz]; decide) rfl rfl⟩
      clear hdep
      simp only [execOp, Act.eval, Array.getD_eq_getD_getElem?, h2, Instr.loadAt, Instr.sureAddr, Sem.run_bind, Sem.run_pure, Result.andThen_ok, hld]
      all_goals rfl
    | 8, ho, hn =>
      simp only [List.getElem?_toArray, List.getElem?_cons_zero, List.getElem?_cons_succ, Option.some.injEq] at ho
      subst ho
      refine ⟨wanted_of (j := 6) (s := 16) (b := false) rfl rfl rfl (hF.slotK (i := 6) (s := 16) (v := .bool false) rfl (hdep ⟨6, .guard⟩ (by simp) rfl) rfl), ?_⟩
      have h17 := hF.slotK (i := 7) (s := 17) (v := .agg C) rfl (hdep ⟨7, .data⟩ (by simp) rfl) rfl
      refine owp_call (fn := 17) (args := #[.agg C]) (by clear hdep; go_simp) ?_
      refine (HTU.out W).mono ?_
      rintro e w' ⟨rfl, hb⟩
      exact ⟨_, rfl, by simp [hl], hsz, hW.trans (hb.mono hW.size), A2, c2, (fun h => ((hR13 (by rw [getD_set (by decide)] at h; exact h)).keep hb).more hb.size), hF.putK 8 18 _ (by rw [hsz]; decide) rfl rfl⟩
    | 9, ho, hn =>
      simp only [List.getElem?_toArray, List.getElem?_cons_zero, List.getElem?_cons_succ, Option.some.injEq] at ho
      subst ho
      refine ⟨wanted_of (j := 6) (s := 16) (b := false) rfl rfl rfl (hF.slotK (i := 6) (s := 16) (v := .bool false) rfl (hdep ⟨6, .guard⟩ (by simp) rfl) rfl), ?_⟩
      have h2 : a.tmps[2]?.getD undef = .pointer (some ⟨b2, 0, none⟩) := hF.baseK 2 rfl rfl
      have hld := run_loadVar_row W b2 33 33 C (0, 0) _ ((hW.block _ (lt_heap HBX.out)).trans HBX.out) Try.underlying33 rfl (HI36.out.trans (by rw [HSZ.out]))
      refine owp_value (.agg C) (w' := W) ?_ ⟨by simp [hl], hsz, hW, A2, c2, (fun h => hR13 (by rw [getD_set (by decide)] at h; exact h)), hF.putK 9 19 _ (by rw [hsz]; decide) rfl rfl⟩
      clear hdep
      simp only [execOp, Act.eval, Array.getD_eq_getD_getElem?, h2, Instr.loadAt, Instr.sureAddr, Sem.run_bind, Sem.run_pure, Result.andThen_ok, hld]
      all_goals rfl
    | 10, ho, hn =>
      simp only [List.getElem?_toArray, List.getElem?_cons_zero, List.getElem?_cons_succ, Option.some.injEq] at ho
      subst ho
      refine ⟨wanted_of (j := 6) (s := 16) (b := false) rfl rfl rfl (hF.slotK (i := 6) (s := 16) (v := .bool false) rfl (hdep ⟨6, .guard⟩ (by simp) rfl) rfl), ?_⟩
      have h19 := hF.slotK (i := 9) (s := 19) (v := .agg C) rfl (hdep ⟨9, .data⟩ (by simp) rfl) rfl
      refine owp_call (fn := 18) (args := #[.agg C]) (by clear hdep; go_simp) ?_
      refine (HRTU.out W).mono ?_
      rintro e w' ⟨rfl, hb⟩
      exact ⟨_, rfl, by simp [hl], hsz, hW.trans (hb.mono hW.size), A2, c2, (fun h => ((hR13 (by rw [getD_set (by decide)] at h; exact h)).keep hb).more hb.size), hF.putK 10 20 _ (by rw [hsz]; decide) rfl rfl⟩
    | 11, ho, hn =>
      simp only [List.getElem?_toArray, List.getElem?_cons_zero, List.getElem?_cons_succ, Option.some.injEq] at ho
      subst ho
      refine ⟨wanted_of (j := 6) (s := 16) (b := false) rfl rfl rfl (hF.slotK (i := 6) (s := 16) (v := .bool false) rfl (hdep ⟨6, .guard⟩ (by simp) rfl) rfl), ?_⟩
      have h18 := hF.slotK (i := 8) (s := 18) (v := .int .u64 ((H9 : Nat) : Int)) rfl (hdep ⟨8, .data⟩ (by simp) rfl) rfl
      have h20 := hF.slotK (i := 10) (s := 20) (v := .int .u64 ((H9 : Nat) : Int)) rfl (hdep ⟨10, .data⟩ (by simp) rfl) rfl
      exact owp_value (.bool false) (w' := W) (by clear hdep; go_simp) ⟨by simp [hl], hsz, hW, A2, c2, (fun h => hR13 (by rw [getD_set (by decide)] at h; exact h)), hF.putK 11 21 _ (by rw [hsz]; decide) rfl rfl⟩
    | 12, ho, hn =>
      simp only [List.getElem?_toArray, List.getElem?_cons_zero, List.getElem?_cons_succ, Option.some.injEq] at ho
      subst ho
      refine ⟨rfl, ?_⟩
      have h16 := hF.slotK (i := 6) (s := 16) (v := .bool false) rfl (hdep ⟨6, .data⟩ (by simp) rfl) rfl
      have h21 := hF.slotK (i := 11) (s := 21) (v := .bool false) rfl (hdep ⟨11, .data⟩ (by simp) rfl) rfl
      exact owp_value (.bool false) (w' := W) (by clear hdep; go_simp) ⟨by simp [hl], hsz, hW, A2, c2, (fun h => hR13 (by rw [getD_set (by decide)] at h; exact h)), hF.putK 12 22 _ (by rw [hsz]; decide) rfl rfl⟩
    | i5 + 13, ho, hn => simp at ho
  · intro l a W1 hI hall
    obtain ⟨_, _, hW1, A2, c2, _, hF⟩ := hI
    have hall : ∀ i, i < 13 → l.getD i false = true := hall
    have ha := FrU.allB (K := ([(0, 10), (1, 11), (2, 12), (3, 13), (4, 14), (5, 15), (6, 16), (7, 17), (8, 18), (9, 19), (10, 20), (11, 21), (12, 22)] : List (Nat × Nat))) (V := (fun i => ([.slice A 38 c, .string S9, .agg C, .slice A2 38 c2, .string S9, .bool false, .bool false, .agg C, .int .u64 ((H9 : Nat) : Int), .agg C, .int .u64 ((H9 : Nat) : Int), .bool false, .bool false][i]?).getD undef)) (BL := ([(0, 10, .slice A 38 c), (1, 11, .string S9), (2, 12, .agg C), (3, 13, .slice A2 38 c2), (4, 14, .string S9), (5, 15, .bool false), (6, 16, .bool false), (7, 17, .agg C), (8, 18, .int .u64 ((H9 : Nat) : Int)), (9, 19, .agg C), (10, 20, .int .u64 ((H9 : Nat) : Int)), (11, 21, .bool false), (12, 22, .bool false)] : List (Nat × Nat × Value))) hF rfl (n := 13) hall rfl
    subst ha
    have HW1 := Lib.hid hW1
    clear hF hall hW1
    refine hKc _ _ ?_
    simp only [setAll, List.setIfInBounds_toArray, List.set_cons_succ, List.set_cons_zero]
    go_upto_region 5 with fail
    obtain ⟨g, hg⟩ := (HO4.out.keepOn HW1.out).at_ (by decide)
    subst hg
    have HM4 := Lib.hid (HO4.out.keepOn HW1.out)
    clear HO4 HW1
    go_loopw [25] (fun vi wr => ∃ (j : Nat) (f' : Nat → Int), vi = .int .i64 (j : Int) ∧ j ≤ 38 ∧ MO w wr [(b2, .cells C 33)] B (some ⟨g, 0, none⟩) 38 c f') (fun vi _ => 38 - (intOf vi).toNat)
    case atStart => exact ⟨0, f0, rfl, Nat.zero_le _, HM4.out⟩
    case round =>
      obtain ⟨j, f', rfl, hj, hm⟩ := hrel
      have HM5 := Lib.hid hm
      clear hm HM4
      by_cases hjn : j < 38
      · have i1 : (j : Int) < 38 := by omega
        have i0 : (0 : Int) ≤ (j : Int) := by omega
        have i2 : ((j : Int)).toNat = j := by omega
        have zj : IntKind.i64.wrap ((j : Int) + 1) = (j : Int) + 1 := by rw [IntKind.wrap_i64]; omega
        have y0 := (HM5.out.cells j hjn).1
        have y1 := (HM5.out.cells j hjn).2
        go_wp2_with fail
        go_roundw
        case rel => exact ⟨j + 1, _, by go_num, by omega, HM5.out.set (by decide) j _⟩
        case measure => simp [intOf]; omega
      · obtain rfl : j = 38 := by omega
        have i1 : ¬ (((38 : Nat) : Int)) < 38 := by omega
        have HX5 := Lib.hid (HM5.out.mem.get 0 rfl)
        have HL5 := Lib.hid HM5.out.below
        clear HM5
        go_upto_region 10 with (first
          | (refine wpList_load_row rfl 33 (.tmp 2) rfl b2 rfl 33 C (0, 0) _ HX5.out Try.underlying33 rfl (HI36.out.trans (by rw [HSZ.out])) ?_)
          | (refine wpList_store_row rfl 33 (.tmp 7) (.tmp 35) rfl wr.heap.size C rfl rfl 33 tupz (heap_alloc_new wr _) (HI36.out.trans (by rw [HSZ.out])) (by rw [HSZ.out]; rfl) HO1.out ?_))
        have HU6 : Hid (((wr.alloc (.cells tupz 33)).setRow wr.heap.size C).heap[wr.heap.size]? = some (.cells C 33 (0, 0))) := Lib.hid (setRow_heap _ _ _ C _ _ (heap_alloc_new wr _))
        have HNE : Hid (b2 ≠ wr.heap.size) := Lib.hid (Nat.ne_of_lt (lt_heap HX5.out))
        have HX6 : Hid (((wr.alloc (.cells tupz 33)).setRow wr.heap.size C).heap[b2]? = some (.cells C 33 (0, 0))) := Lib.hid ((setRow_other _ _ _ C HNE.out).trans (blk_old HX5.out _))
        have HLO : Hid (w.heap.size ≤ wr.heap.size) := Lib.hid HL5.out.size
        have HL6 : Hid (Below w.heap.size w ((wr.alloc (.cells tupz 33)).setRow wr.heap.size C)) := Lib.hid (below_setRow (HL5.out.alloc HL5.out.size _) HLO.out C)
        change Code.wp _ _ _ _ ((wr.alloc (.cells tupz 33)).setRow wr.heap.size C)
        obtain ⟨b7, hb7⟩ : ∃ z, z = wr.heap.size := ⟨_, rfl⟩
        rw [← hb7] at HU6 HNE HX6 HLO HL6 ⊢
        clear hb7 HX5 HL5
        generalize (wr.alloc (.cells tupz 33)).setRow b7 C = u6 at *
        have x0 : u6.cell? ⟨b2, 0, none⟩ = some (.bool true) := by
          rw [blk_cell HX6.out 0, HC.out]
          rfl
        go_upto_region 13 with fail
        clear x0
        have HU7 := Lib.hid HU6.out
        have HX7 := Lib.hid HX6.out
        have HL7 := Lib.hid HL6.out
        have HTV := Lib.hid HTU.out
        have HBV := Lib.hid HBY.out
        clear HU6 HX6 HL6
        generalize u6 = u7 at *
        rename_i Kc hKc
        refine wp_region_invG (fun a0 l a W => l.size = 18 ∧ a0.tmps.size = 78 ∧ Below u7.heap.size u7 W ∧ ∃ (A2 : Option Addr) (c2 : Nat), ∃ (A3 : Option Addr) (c3 : Nat), (l.getD 7 false = true → Rd W W.heap.size A2 38 f0) ∧ (l.getD 10 false = true → Rd W W.heap.size A3 38 f0) ∧ FrU a0 (kv ([(0, 61), (1, 62), (2, 63), (3, 64), (4, 65), (5, 66), (6, 67), (7, 68), (8, 69), (9, 70), (10, 71), (11, 72), (12, 73), (13, 74), (14, 75), (15, 76), (16, 77), (17, 4)] : List (Nat × Nat)) (fun i => ([.agg C, .int .u64 ((H9 : Nat) : Int), .agg C, .int .u64 ((H9 : Nat) : Int), .bool true, .bool true, .agg C, .slice A2 38 c2, .string S9, .agg C, .slice A3 38 c3, .string S9, .bool true, .bool true, .bool true, .bool true, .bool true, .bool true][i]?).getD undef)) l a) ?_ ?_ ?_ ?_ ?_ ?_
        · kernel_rfl
        · exact fun _ _ _ h => h.1
        · kernel_rfl
        · exact ⟨by simp, rfl, (Below.refl _ _).drew, none, 0, none, 0, (fun h => by rw [getD_none] at h; cases h), (fun h => by rw [getD_none] at h; cases h), FrU.start _ _ _⟩
        · intro l a W i5 o hI ho hn hdep
          obtain ⟨hl, hsz, hW, A2, c2, A3, c3, hR68, hR71, hF⟩ := hI

          match i5, ho, hn with
          | 0, ho, hn =>
            simp only [List.getElem?_toArray, List.getElem?_cons_zero, Option.some.injEq] at ho
            subst ho
            refine ⟨rfl, ?_⟩
            have h7 : a.tmps[7]?.getD undef = .pointer (some ⟨b7, 0, none⟩) := hF.baseK 7 rfl rfl
            have hld := run_loadVar_row W b7 33 33 C (0, 0) _ ((hW.block _ (lt_heap HU7.out)).trans HU7.out) Try.underlying33 rfl (HI36.out.trans (by rw [HSZ.out]))
            refine owp_value (.agg C) (w' := W) ?_ ⟨by simp [hl], hsz, hW, A2, c2, A3, c3, (fun h => hR68 (by rw [getD_set (by decide)] at h; exact h)), (fun h => hR71 (by rw [getD_set (by decide)] at h; exact h)), hF.putK 0 61 _ (by rw [hsz]; decide) rfl rfl⟩
            clear hdep
            simp only [execOp, Act.eval, Array.getD_eq_getD_getElem?, h7, Instr.loadAt, Instr.sureAddr, Sem.run_bind, Sem.run_pure, Result.andThen_ok, hld]
            all_goals rfl
          | 1, ho, hn =>
            simp only [List.getElem?_toArray, List.getElem?_cons_zero, List.getElem?_cons_succ, Option.some.injEq] at ho
            subst ho
            refine ⟨rfl, ?_⟩
            have h61 := hF.slotK (i := 0) (s := 61) (v := .agg C) rfl (hdep ⟨0, .data⟩ (by simp) rfl) rfl
            refine owp_call (fn := 17) (args := #[.agg C]) (by clear hdep; go_simp) ?_
            refine (HTV.out W).mono ?_
            rintro e w' ⟨rfl, hb⟩
            exact ⟨_, rfl, by simp [hl], hsz, hW.trans (hb.mono hW.size), A2, c2, A3, c3, (fun h => ((hR68 (by rw [getD_set (by decide)] at h; exact h)).keep hb).more hb.size), (fun h => ((hR71 (by rw [getD_set (by decide)] at h; exact h)).keep hb).more hb.size), hF.putK 1 62 _ (by rw [hsz]; decide) rfl rfl⟩
          | 2, ho, hn =>
            simp only [List.getElem?_toArray, List.getElem?_cons_zero, List.getElem?_cons_succ, Option.some.injEq] at ho
            subst ho
            refine ⟨rfl, ?_⟩
            have h2 : a.tmps[2]?.getD undef = .pointer (some ⟨b2, 0, none⟩) := hF.baseK 2 rfl rfl
            have hld := run_loadVar_row W b2 33 33 C (0, 0) _ ((hW.block _ (lt_heap HX7.out)).trans HX7.out) Try.underlying33 rfl (HI36.out.trans (by rw [HSZ.out]))
            refine owp_value (.agg C) (w' := W) ?_ ⟨by simp [hl], hsz, hW, A2, c2, A3, c3, (fun h => hR68 (by rw [getD_set (by decide)] at h; exact h)), (fun h => hR71 (by rw [getD_set (by decide)] at h; exact h)), hF.putK 2 63 _ (by rw [hsz]; decide) rfl rfl⟩
            clear hdep
            simp only [execOp, Act.eval, Array.getD_eq_getD_getElem?, h2, Instr.loadAt, Instr.sureAddr, Sem.run_bind, Sem.run_pure, Result.andThen_ok, hld]
            all_goals rfl
          | 3, ho, hn =>
            simp only [List.getElem?_toArray, List.getElem?_cons_zero, List.getElem?_cons_succ, Option.some.injEq] at ho
            subst ho
            refine ⟨rfl, ?_⟩
            have h63 := hF.slotK (i := 2) (s := 63) (v := .agg C) rfl (hdep ⟨2, .data⟩ (by simp) rfl) rfl
            refine owp_call (fn := 17) (args := #[.agg C]) (by clear hdep; go_simp) ?_
            refine (HTU.out W).mono ?_
            rintro e w' ⟨rfl, hb⟩
            exact ⟨_, rfl, by simp [hl], hsz, hW.trans (hb.mono hW.size), A2, c2, A3, c3, (fun h => ((hR68 (by rw [getD_set (by decide)] at h; exact h)).keep hb).more hb.size), (fun h => ((hR71 (by rw [getD_set (by decide)] at h; exact h)).keep hb).more hb.size), hF.putK 3 64 _ (by rw [hsz]; decide) rfl rfl⟩
          | 4, ho, hn =>
            simp only [List.getElem?_toArray, List.getElem?_cons_zero, List.getElem?_cons_succ, Option.some.injEq] at ho
            subst ho
            refine ⟨rfl, ?_⟩
            have h62 := hF.slotK (i := 1) (s := 62) (v := .int .u64 ((H9 : Nat) : Int)) rfl (hdep ⟨1, .data⟩ (by simp) rfl) rfl
            have h64 := hF.slotK (i := 3) (s := 64) (v := .int .u64 ((H9 : Nat) : Int)) rfl (hdep ⟨3, .data⟩ (by simp) rfl) rfl
            exact owp_value (.bool true) (w' := W) (by clear hdep; go_simp) ⟨by simp [hl], hsz, hW, A2, c2, A3, c3, (fun h => hR68 (by rw [getD_set (by decide)] at h; exact h)), (fun h => hR71 (by rw [getD_set (by decide)] at h; exact h)), hF.putK 4 65 _ (by rw [hsz]; decide) rfl rfl⟩
          | 5, ho, hn =>
            simp only [List.getElem?_toArray, List.getElem?_cons_zero, List.getElem?_cons_succ, Option.some.injEq] at ho
            subst ho
            refine ⟨rfl, ?_⟩
            have h65 := hF.slotK (i := 4) (s := 65) (v := .bool true) rfl (hdep ⟨4, .data⟩ (by simp) rfl) rfl
            exact owp_value (.bool true) (w' := W) (by clear hdep; go_simp) ⟨by simp [hl], hsz, hW, A2, c2, A3, c3, (fun h => hR68 (by rw [getD_set (by decide)] at h; exact h)), (fun h => hR71 (by rw [getD_set (by decide)] at h; exact h)), hF.putK 5 66 _ (by rw [hsz]; decide) rfl rfl⟩
          | 6, ho, hn =>
            simp only [List.getElem?_toArray, List.getElem?_cons_zero, List.getElem?_cons_succ, Option.some.injEq] at ho
            subst ho
            refine ⟨wanted_of (j := 5) (s := 66) (b := true) rfl rfl rfl (hF.slotK (i := 5) (s := 66) (v := .bool true) rfl (hdep ⟨5, .guard⟩ (by simp) rfl) rfl), ?_⟩
            have h7 : a.tmps[7]?.getD undef = .pointer (some ⟨b7, 0, none⟩) := hF.baseK 7 rfl rfl
            have hld := run_loadVar_row W b7 33 33 C (0, 0) _ ((hW.block _ (lt_heap HU7.out)).trans HU7.out) Try.underlying33 rfl (HI36.out.trans (by rw [HSZ.out]))
            refine owp_value (.agg C) (w' := W) ?_ ⟨by simp [hl], hsz, hW, A2, c2, A3, c3, (fun h => hR68 (by rw [getD_set (by decide)] at h; exact h)), (fun h => hR71 (by rw [getD_set (by decide)] at h; exact h)), hF.putK 6 67 _ (by rw [hsz]; decide) rfl rfl⟩
            clear hdep
            simp only [execOp, Act.eval, Array.getD_eq_getD_getElem?, h7, Instr.loadAt, Instr.sureAddr, Sem.run_bind, Sem.run_pure, Result.andThen_ok, hld]
            all_goals rfl
          | 7, ho, hn =>
            simp only [List.getElem?_toArray, List.getElem?_cons_zero, List.getElem?_cons_succ, Option.some.injEq] at ho
            subst ho
            refine ⟨wanted_of (j := 5) (s := 66) (b := true) rfl rfl rfl (hF.slotK (i := 5) (s := 66) (v := .bool true) rfl (hdep ⟨5, .guard⟩ (by simp) rfl) rfl), ?_⟩
            have h67 := hF.slotK (i := 6) (s := 67) (v := .agg C) rfl (hdep ⟨6, .data⟩ (by simp) rfl) rfl
            refine owp_call (fn := 15) (args := #[.agg C]) (by clear hdep; go_simp) ?_
            refine (HBV.out W).mono ?_
            rintro e w' ⟨A29, c29, rfl, hown, hb⟩
            have hrd := hown.rd
            have hF2 := hF.swapK (V' := (fun i => ([.agg C, .int .u64 ((H9 : Nat) : Int), .agg C, .int .u64 ((H9 : Nat) : Int), .bool true, .bool true, .agg C, .slice A29 38 c29, .string S9, .agg C, .slice A3 38 c3, .string S9, .bool true, .bool true, .bool true, .bool true, .bool true, .bool true][i]?).getD undef)) 7 hn (fun q hq => by
              match q with
              | 0 => rfl
              | 1 => rfl
              | 2 => rfl
              | 3 => rfl
              | 4 => rfl
              | 5 => rfl
              | 6 => rfl
              | 7 => exact absurd rfl hq
              | 8 => rfl
              | 9 => rfl
              | 10 => rfl
              | 11 => rfl
              | 12 => rfl
              | 13 => rfl
              | 14 => rfl
              | 15 => rfl
              | 16 => rfl
              | 17 => rfl
              | q + 18 => rfl)
            exact ⟨_, rfl, by simp [hl], hsz, hW.trans (hb.mono hW.size), A29, c29, A3, c3, (fun _ => hrd), (fun h => ((hR71 (by rw [getD_set (by decide)] at h; exact h)).keep hb).more hb.size), hF2.putK 7 68 _ (by rw [hsz]; decide) rfl rfl⟩
          | 8, ho, hn =>
            simp only [List.getElem?_toArray, List.getElem?_cons_zero, List.getElem?_cons_succ, Option.some.injEq] at ho
            subst ho
            refine ⟨wanted_of (j := 5) (s := 66) (b := true) rfl rfl rfl (hF.slotK (i := 5) (s := 66) (v := .bool true) rfl (hdep ⟨5, .guard⟩ (by simp) rfl) rfl), ?_⟩
            have h68 := hF.slotK (i := 7) (s := 68) (v := .slice A2 38 c2) rfl (hdep ⟨7, .data⟩ (by simp) rfl) rfl
            have hcv := run_convert_rd (P := Try.prog) (hR68 (hdep ⟨7, .data⟩ (by simp) rfl)) 23 5 9 c2 Try.underlying23 Try.underlying5 Try.underlying9
            rw [← HS9.out] at hcv
            refine owp_value (.string S9) (w' := W) (by clear hdep; go_simp) ⟨by simp [hl], hsz, hW, A2, c2, A3, c3, (fun h => hR68 (by rw [getD_set (by decide)] at h; exact h)), (fun h => hR71 (by rw [getD_set (by decide)] at h; exact h)), hF.putK 8 69 _ (by rw [hsz]; decide) rfl rfl⟩
          | 9, ho, hn =>
            simp only [List.getElem?_toArray, List.getElem?_cons_zero, List.getElem?_cons_succ, Option.some.injEq] at ho
            subst ho
            refine ⟨wanted_of (j := 5) (s := 66) (b := true) rfl rfl rfl (hF.slotK (i := 5) (s := 66) (v := .bool true) rfl (hdep ⟨5, .guard⟩ (by simp) rfl) rfl), ?_⟩
            have h2 : a.tmps[2]?.getD undef = .pointer (some ⟨b2, 0, none⟩) := hF.baseK 2 rfl rfl
            have hld := run_loadVar_row W b2 33 33 C (0, 0) _ ((hW.block _ (lt_heap HX7.out)).trans HX7.out) Try.underlying33 rfl (HI36.out.trans (by rw [HSZ.out]))
            refine owp_value (.agg C) (w' := W) ?_ ⟨by simp [hl], hsz, hW, A2, c2, A3, c3, (fun h => hR68 (by rw [getD_set (by decide)] at h; exact h)), (fun h => hR71 (by rw [getD_set (by decide)] at h; exact h)), hF.putK 9 70 _ (by rw [hsz]; decide) rfl rfl⟩
            clear hdep
            simp only [execOp, Act.eval, Array.getD_eq_getD_getElem?, h2, Instr.loadAt, Instr.sureAddr, Sem.run_bind, Sem.run_pure, Result.andThen_ok, hld]
            all_goals rfl
          | 10, ho, hn =>
            simp only [List.getElem?_toArray, List.getElem?_cons_zero, List.getElem?_cons_succ, Option.some.injEq] at ho
            subst ho
            refine ⟨wanted_of (j := 5) (s := 66) (b := true) rfl rfl rfl (hF.slotK (i := 5) (s := 66) (v := .bool true) rfl (hdep ⟨5, .guard⟩ (by simp) rfl) rfl), ?_⟩
            have h70 := hF.slotK (i := 9) (s := 70) (v := .agg C) rfl (hdep ⟨9, .data⟩ (by simp) rfl) rfl
            refine owp_call (fn := 16) (args := #[.agg C]) (by clear hdep; go_simp) ?_
            refine (HRBY.out W).mono ?_
            rintro e w' ⟨A39, c39, rfl, hown, hb⟩
            have hrd := hown.rd
            have hF2 := hF.swapK (V' := (fun i => ([.agg C, .int .u64 ((H9 : Nat) : Int), .agg C, .int .u64 ((H9 : Nat) : Int), .bool true, .bool true, .agg C, .slice A2 38 c2, .string S9, .agg C, .slice A39 38 c39, .string S9, .bool true, .bool true, .bool true, .bool true, .bool true, .bool true][i]?).getD undef)) 10 hn (fun q hq => by
              match q with
              | 0 => rfl
              | 1 => rfl
              | 2 => rfl
              | 3 => rfl
              | 4 => rfl
              | 5 => rfl
              | 6 => rfl
              | 7 => rfl
              | 8 => rfl
              | 9 => rfl
              | 10 => exact absurd rfl hq
              | 11 => rfl
              | 12 => rfl
              | 13 => rfl
              | 14 => rfl
              | 15 => rfl
              | 16 => rfl
              | 17 => rfl
              | q + 18 => rfl)
            exact ⟨_, rfl, by simp [hl], hsz, hW.trans (hb.mono hW.size), A2, c2, A39, c39, (fun h => ((hR68 (by rw [getD_set (by decide)] at h; exact h)).keep hb).more hb.size), (fun _ => hrd), hF2.putK 10 71 _ (by rw [hsz]; decide) rfl rfl⟩
          | 11, ho, hn =>
            simp only [List.getElem?_toArray, List.getElem?_cons_zero, List.getElem?_cons_succ, Option.some.injEq] at ho
            subst ho
            refine ⟨wanted_of (j := 5) (s := 66) (b := true) rfl rfl rfl (hF.slotK (i := 5) (s := 66) (v := .bool true) rfl (hdep ⟨5, .guard⟩ (by simp) rfl) rfl), ?_⟩
            have h71 := hF.slotK (i := 10) (s := 71) (v := .slice A3 38 c3) rfl (hdep ⟨10, .data⟩ (by simp) rfl) rfl
            have hcv := run_convert_rd (P := Try.prog) (hR71 (hdep ⟨10, .data⟩ (by simp) rfl)) 23 5 9 c3 Try.underlying23 Try.underlying5 Try.underlying9
            rw [← HS9.out] at hcv
            refine owp_value (.string S9) (w' := W) (by clear hdep; go_simp) ⟨by simp [hl], hsz, hW, A2, c2, A3, c3, (fun h => hR68 (by rw [getD_set (by decide)] at h; exact h)), (fun h => hR71 (by rw [getD_set (by decide)] at h; exact h)), hF.putK 11 72 _ (by rw [hsz]; decide) rfl rfl⟩
          | 12, ho, hn =>
            simp only [List.getElem?_toArray, List.getElem?_cons_zero, List.getElem?_cons_succ, Option.some.injEq] at ho
            subst ho
            refine ⟨wanted_of (j := 5) (s := 66) (b := true) rfl rfl rfl (hF.slotK (i := 5) (s := 66) (v := .bool true) rfl (hdep ⟨5, .guard⟩ (by simp) rfl) rfl), ?_⟩
            have h69 := hF.slotK (i := 8) (s := 69) (v := .string S9) rfl (hdep ⟨8, .data⟩ (by simp) rfl) rfl
            have h72 := hF.slotK (i := 11) (s := 72) (v := .string S9) rfl (hdep ⟨11, .data⟩ (by simp) rfl) rfl
            exact owp_value (.bool true) (w' := W) (by clear hdep; go_simp) ⟨by simp [hl], hsz, hW, A2, c2, A3, c3, (fun h => hR68 (by rw [getD_set (by decide)] at h; exact h)), (fun h => hR71 (by rw [getD_set (by decide)] at h; exact h)), hF.putK 12 73 _ (by rw [hsz]; decide) rfl rfl⟩
          | 13, ho, hn =>
            simp only [List.getElem?_toArray, List.getElem?_cons_zero, List.getElem?_cons_succ, Option.some.injEq] at ho
            subst ho
            refine ⟨rfl, ?_⟩
            have h66 := hF.slotK (i := 5) (s := 66) (v := .bool true) rfl (hdep ⟨5, .data⟩ (by simp) rfl) rfl
            have h73 := hF.slotK (i := 12) (s := 73) (v := .bool true) rfl (hdep ⟨12, .data⟩ (by simp) rfl) rfl
            exact owp_value (.bool true) (w' := W) (by clear hdep; go_simp) ⟨by simp [hl], hsz, hW, A2, c2, A3, c3, (fun h => hR68 (by rw [getD_set (by decide)] at h; exact h)), (fun h => hR71 (by rw [getD_set (by decide)] at h; exact h)), hF.putK 13 74 _ (by rw [hsz]; decide) rfl rfl⟩
          | 14, ho, hn =>
            simp only [List.getElem?_toArray, List.getElem?_cons_zero, List.getElem?_cons_succ, Option.some.injEq] at ho
            subst ho
            refine ⟨rfl, ?_⟩
            have h74 := hF.slotK (i := 13) (s := 74) (v := .bool true) rfl (hdep ⟨13, .data⟩ (by simp) rfl) rfl
            exact owp_value (.bool true) (w' := W) (by clear hdep; go_simp) ⟨by simp [hl], hsz, hW, A2, c2, A3, c3, (fun h => hR68 (by rw [getD_set (by decide)] at h; exact h)), (fun h => hR71 (by rw [getD_set (by decide)] at h; exact h)), hF.putK 14 75 _ (by rw [hsz]; decide) rfl rfl⟩
          | 15, ho, hn =>
            simp only [List.getElem?_toArray, List.getElem?_cons_zero, List.getElem?_cons_succ, Option.some.injEq] at ho
            subst ho
            refine ⟨wanted_of (j := 14) (s := 75) (b := true) rfl rfl rfl (hF.slotK (i := 14) (s := 75) (v := .bool true) rfl (hdep ⟨14, .guard⟩ (by simp) rfl) rfl), ?_⟩
            refine owp_call (fn := 6) (args := #[]) (by clear hdep; go_simp) ?_
            refine (HK.out W).mono ?_
            rintro e w' ⟨rfl, hb⟩
            exact ⟨_, rfl, by simp [hl], hsz, hW.trans (hb.mono hW.size), A2, c2, A3, c3, (fun h => ((hR68 (by rw [getD_set (by decide)] at h; exact h)).keep hb).more hb.size), (fun h => ((hR71 (by rw [getD_set (by decide)] at h; exact h)).keep hb).more hb.size), hF.putK 15 76 _ (by rw [hsz]; decide) rfl rfl⟩
          | 16, ho, hn =>
            simp only [List.getElem?_toArray, List.getElem?_cons_zero, List.getElem?_cons_succ, Option.some.injEq] at ho
            subst ho
            refine ⟨rfl, ?_⟩
            have h75 := hF.slotK (i := 14) (s := 75) (v := .bool true) rfl (hdep ⟨14, .data⟩ (by simp) rfl) rfl
            have h76 := hF.slotK (i := 15) (s := 76) (v := .bool true) rfl (hdep ⟨15, .data⟩ (by simp) rfl) rfl
            exact owp_value (.bool true) (w' := W) (by clear hdep; go_simp) ⟨by simp [hl], hsz, hW, A2, c2, A3, c3, (fun h => hR68 (by rw [getD_set (by decide)] at h; exact h)), (fun h => hR71 (by rw [getD_set (by decide)] at h; exact h)), hF.putK 16 77 _ (by rw [hsz]; decide) rfl rfl⟩
          | 17, ho, hn =>
            simp only [List.getElem?_toArray, List.getElem?_cons_zero, List.getElem?_cons_succ, Option.some.injEq] at ho
            subst ho
            refine ⟨rfl, ?_⟩
            have h77 := hF.slotK (i := 16) (s := 77) (v := .bool true) rfl (hdep ⟨16, .data⟩ (by simp) rfl) rfl
            exact owp_value (.bool true) (w' := W) (by clear hdep; go_simp) ⟨by simp [hl], hsz, hW, A2, c2, A3, c3, (fun h => hR68 (by rw [getD_set (by decide)] at h; exact h)), (fun h => hR71 (by rw [getD_set (by decide)] at h; exact h)), hF.putK 17 4 _ (by rw [hsz]; decide) rfl rfl⟩
          | i5 + 18, ho, hn => simp at ho
        · intro l a W1 hI hall
          obtain ⟨_, _, hW1, A2, c2, A3, c3, _, _, hF⟩ := hI
          have hall : ∀ i, i < 18 → l.getD i false = true := hall
          have ha := FrU.allB (K := ([(0, 61), (1, 62), (2, 63), (3, 64), (4, 65), (5, 66), (6, 67), (7, 68), (8, 69), (9, 70), (10, 71), (11, 72), (12, 73), (13, 74), (14, 75), (15, 76), (16, 77), (17, 4)] : List (Nat × Nat))) (V := (fun i => ([.agg C, .int .u64 ((H9 : Nat) : Int), .agg C, .int .u64 ((H9 : Nat) : Int), .bool true, .bool true, .agg C, .slice A2 38 c2, .string S9, .agg C, .slice A3 38 c3, .string S9, .bool true, .bool true, .bool true, .bool true, .bool true, .bool true][i]?).getD undef)) (BL := ([(0, 61, .agg C), (1, 62, .int .u64 ((H9 : Nat) : Int)), (2, 63, .agg C), (3, 64, .int .u64 ((H9 : Nat) : Int)), (4, 65, .bool true), (5, 66, .bool true), (6, 67, .agg C), (7, 68, .slice A2 38 c2), (8, 69, .string S9), (9, 70, .agg C), (10, 71, .slice A3 38 c3), (11, 72, .string S9), (12, 73, .bool true), (13, 74, .bool true), (14, 75, .bool true), (15, 76, .bool true), (16, 77, .bool true), (17, 4, .bool true)] : List (Nat × Nat × Value))) hF rfl (n := 18) hall rfl
          subst ha
          have HW1 := Lib.hid hW1
          clear hF hall hW1
          refine hKc _ _ ?_
          simp only [setAll, List.setIfInBounds_toArray, List.set_cons_succ, List.set_cons_zero]
          go_wp2_with fail
          go_ret
          exact ⟨rfl, HL7.out.trans (HW1.out.mono HL7.out.size)⟩
set_option maxHeartbeats 2000000 in
theorem htuples_false (H : HashP) (HTT : HashT) (pr : Int) (s d : Nat → Int) (sp dp : Int) (hp : 0 ≤ pr ∧ pr ≤ 255) (hs : Byt s) (hd : Byt d) (h1 : 0 ≤ sp ∧ sp ≤ 65535) (h2 : 0 ≤ dp ∧ dp ≤ 65535) (oo : Nat) (hoo : oo < 256) (w : World) : Calls Try.prog 4 #[.agg (tupc false pr s d sp dp), .int .u8 (oo : Int)] w (ret (.bool true) w) := by
  have HK := Lib.hid (known_any H)
  have HT := Lib.hid HTT
  have HI36 : Hid ((Try.prog.info? 33).map (·.size) = some 36) := Lib.hid (by kernel_rfl)
  have HBY : Hid (∀ W : World, Calls Try.prog 15 #[.agg (tupc false pr s d sp dp)] W fun e w' => ∃ A c, e = .returned (.slice A 14 c) ∧ Own w' W.heap.size 5 A 14 c (tupB false pr s d sp dp) ∧ Below W.heap.size W w') := Lib.hid fun W => HTT.bytes false pr s d sp dp hp hs hd h1 h2 W
  have HRBY : Hid (∀ W : World, Calls Try.prog 16 #[.agg (tupc false pr s d sp dp)] W fun e w' => ∃ A c, e = .returned (.slice A 14 c) ∧ Own w' W.heap.size 5 A 14 c (tupB false pr s d sp dp) ∧ Below W.heap.size W w') := Lib.hid fun W => rbytes_any false pr s d sp dp h1 h2 W
  have HTU : Hid (∀ W : World, Calls Try.prog 17 #[.agg (tupc false pr s d sp dp)] W (ret (.int .u64 ((seedN 0 (nb (tupB false pr s d sp dp)) 14 : Nat) : Int)) W)) := Lib.hid fun W => HTT.tuple false pr s d sp dp hp hs hd h1 h2 W
  have HRTU : Hid (∀ W : World, Calls Try.prog 18 #[.agg (tupc false pr s d sp dp)] W (ret (.int .u64 ((seedN 0 (nb (tupB false pr s d sp dp)) 14 : Nat) : Int)) W)) := Lib.hid fun W => rtuple_any false pr s d sp dp hp hs hd h1 h2 W
  obtain ⟨H9, hH9⟩ : ∃ x, x = seedN 0 (nb (tupB false pr s d sp dp)) 14 := ⟨_, rfl⟩
  obtain ⟨f0, hf0⟩ : ∃ f, f = tupB false pr s d sp dp := ⟨_, rfl⟩
  obtain ⟨C, hC⟩ : ∃ C, C = tupc false pr s d sp dp := ⟨_, rfl⟩
  rw [← hH9] at HTU HRTU
  rw [← hf0] at HBY HRBY hH9
  rw [← hC] at HTU HRTU HBY HRBY ⊢
  have HH9 := Lib.hid hH9
  have HF0 := Lib.hid hf0
  have HC := Lib.hid hC
  have HSZ : Hid (C.size = 36) := Lib.hid (by rw [hC]; rfl)
  have HO1 : Hid (C.all (·.oneCell') = true) := Lib.hid (by rw [hC]; exact tup_one ..)
  obtain ⟨S9, hS9⟩ : ∃ S, S = strOfNums (nums 14 f0) := ⟨_, rfl⟩
  have HS9 := Lib.hid hS9
  clear hH9 hf0 hC hS9 H HTT
  have HM1 : Hid (Mem w (w.alloc (.cells C 33)) [(w.heap.size, .cells C 33)]) := Lib.hid ((Mem.nil w).alloc _)
  go_enter Try.func4, Try.ntmps4
  go_upto_region 1 with fail
  change Code.wp _ _ _ _ (w.alloc (.cells C 33))
  obtain ⟨b2, hb2⟩ : ∃ b, b = w.heap.size := ⟨_, rfl⟩
  rw [← hb2] at HM1 ⊢
  clear hb2
  generalize w.alloc (.cells C 33) = u1 at *
  have HX1_ := Lib.hid (HM1.out.get 0 rfl)
  go_upto_region 2 with (first
    | (refine wpList_load_row rfl 33 (.tmp 2) rfl b2 rfl 33 C (0, 0) _ HX1_.out Try.underlying33 rfl (HI36.out.trans (by rw [HSZ.out])) ?_)
    | (go_at_call 15
       refine (HBY.out _).mono ?_
       rintro e u3 ⟨A, c, rfl, ho, hb3⟩
       have HO4 : Hid (MO w u3 [(b2, .cells C 33)] u1.heap.size A 14 c f0) := Lib.hid (MO.start HM1.out hb3 ho)
       clear ho hb3))
  obtain ⟨B, hB⟩ : ∃ B, B = u1.heap.size := ⟨_, rfl⟩
  rw [← hB] at HO4
  have HBX := Lib.hid (HO4.out.mem.get 0 rfl)
  have HRB := Lib.hid HO4.out.own.rd
  clear hB HX1_ HM1
  rename_i Kc hKc
  refine wp_region_invG (fun a0 l a W => l.size = 13 ∧ a0.tmps.size = 78 ∧ Below u3.heap.size u3 W ∧ ∃ (A2 : Option Addr) (c2 : Nat), (l.getD 3 false = true → Rd W W.heap.size A2 14 f0) ∧ FrU a0 (kv ([(0, 10), (1, 11), (2, 12), (3, 13), (4, 14), (5, 15), (6, 16), (7, 17), (8, 18), (9, 19), (10, 20), (11, 21), (12, 22)] : List (Nat × Nat)) (fun i => ([.slice A 14 c, .string S9, .agg C, .slice A2 14 c2, .string S9, .bool false, .bool false, .agg C, .int .u64 ((H9 : Nat) : Int), .agg C, .int .u64 ((H9 : Nat) : Int), .bool false, .bool false][i]?).getD undef)) l a) ?_ ?_ ?_ ?_ ?_ ?_
  · kernel_rfl
  · exact fun _ _ _ h => h.1
  · kernel_rfl
  · exact ⟨by simp, rfl, (Below.refl _ _).drew, none, 0, (fun h => by rw [getD_none] at h; cases h), FrU.start _ _ _⟩
  · intro l a W i5 o hI ho hn hdep
    obtain ⟨hl, hsz, hW, A2, c2, hR13, hF⟩ := hI

    match i5, ho, hn with
    | 0, ho, hn =>
      simp only [List.getElem?_toArray, List.getElem?_cons_zero, Option.some.injEq] at ho
      subst ho
      refine ⟨rfl, ?_⟩
      have h5 : a.tmps[5]?.getD undef = .slice A 14 c := hF.baseK 5 rfl rfl
      exact owp_value (.slice A 14 c) (w' := W) (by clear hdep; go_simp) ⟨by simp [hl], hsz, hW, A2, c2, (fun h => hR13 (by rw [getD_set (by decide)] at h; exact h)), hF.putK 0 10 _ (by rw [hsz]; decide) rfl rfl⟩
    | 1, ho, hn =>
      simp only [List.getElem?_toArray, List.getElem?_cons_zero, List.getElem?_cons_succ, Option.some.injEq] at ho
      subst ho
      refine ⟨rfl, ?_⟩
      have h10 := hF.slotK (i := 0) (s := 10) (v := .slice A 14 c) rfl (hdep ⟨0, .data⟩ (by simp) rfl) rfl
      have hcv := run_convert_rd (P := Try.prog) (HRB.out.keep hW) 23 5 9 c Try.underlying23 Try.underlying5 Try.underlying9
      rw [← HS9.out] at hcv
      refine owp_value (.string S9) (w' := W) (by clear hdep; go_simp) ⟨by simp [hl], hsz, hW, A2, c2, (fun h => hR13 (by rw [getD_set (by decide)] at h; exact h)), hF.putK 1 11 _ (by rw [hsz]; decide) rfl rfl⟩
    | 2, ho, hn =>
      simp only [List.getElem?_toArray, List.getElem?_cons_zero, List.getElem?_cons_succ, Option.some.injEq] at ho
      subst ho
      refine ⟨rfl, ?_⟩
      have h2 : a.tmps[2]?.getD undef = .pointer (some ⟨b2, 0, none⟩) := hF.baseK 2 rfl rfl
      have hld := run_loadVar_row W b2 33 33 C (0, 0) _ ((hW.block _ (lt_heap HBX.out)).trans HBX.out) Try.underlying33 rfl (HI36.out.trans (by rw [HSZ.out]))
      refine owp_value (.agg C) (w' := W) ?_ ⟨by simp [hl], hsz, hW, A2, c2, (fun h => hR13 (by rw [getD_set (by decide)] at h; exact h)), hF.putK 2 12 _ (by rw [hsz]; decide) rfl rfl⟩
      clear hdep
      simp only [execOp, Act.eval, Array.getD_eq_getD_getElem?, h2, Instr.loadAt, Instr.sureAddr, Sem.run_bind, Sem.run_pure, Result.andThen_ok, hld]
      all_goals rfl
    | 3, ho, hn =>
      simp only [List.getElem?_toArray, List.getElem?_cons_zero, List.getElem?_cons_succ, Option.some.injEq] at ho
      subst ho
      refine ⟨rfl, ?_⟩
      have h12 := hF.slotK (i := 2) (s := 12) (v := .agg C) rfl (hdep ⟨2, .data⟩ (by simp) rfl) rfl
      refine owp_call (fn := 16) (args := #[.agg C]) (by clear hdep; go_simp) ?_
      refine (HRBY.out W).mono ?_
      rintro e w' ⟨A29, c29, rfl, hown, hb⟩
      have hrd := hown.rd
      have hF2 := hF.swapK (V' := (fun i => ([.slice A 14 c, .string S9, .agg C, .slice A29 14 c29, .string S9, .bool false, .bool false, .agg C, .int .u64 ((H9 : Nat) : Int), .agg C, .int .u64 ((H9 : Nat) : Int), .bool false, .bool false][i]?).getD undef)) 3 hn (fun q hq => by
        match q with
        | 0 => rfl
        | 1 => rfl
        | 2 => rfl
        | 3 => exact absurd rfl hq
        | 4 => rfl
        | 5 => rfl
        | 6 => rfl
        | 7 => rfl
        | 8 => rfl
        | 9 => rfl
        | 10 => rfl
        | 11 => rfl
        | 12 => rfl
        | q + 13 => rfl)
      exact ⟨_, rfl, by simp [hl], hsz, hW.trans (hb.mono hW.size), A29, c29, (fun _ => hrd), hF2.putK 3 13 _ (by rw [hsz]; decide) rfl rfl⟩
    | 4, ho, hn =>
      simp only [List.getElem?_toArray, List.getElem?_cons_zero, List.getElem?_cons_succ, Option.some.injEq] at ho
      subst ho
      refine ⟨rfl, ?_⟩
      have h13 := hF.slotK (i := 3) (s := 13) (v := .slice A2 14 c2) rfl (hdep ⟨3, .data⟩ (by simp) rfl) rfl
      have hcv := run_convert_rd (P := Try.prog) (hR13 (hdep ⟨3, .data⟩ (by simp) rfl)) 23 5 9 c2 Try.underlying23 Try.underlying5 Try.underlying9
      rw [← HS9.out] at hcv
      refine owp_value (.string S9) (w' := W) (by clear hdep; go_simp) ⟨by simp [hl], hsz, hW, A2, c2, (fun h => hR13 (by rw [getD_set (by decide)] at h; exact h)), hF.putK 4 14 _ (by rw [hsz]; decide) rfl rfl⟩
    | 5, ho, hn =>
      simp only [List.getElem?_toArray, List.getElem?_cons_zero, List.getElem?_cons_succ, Option.some.injEq] at ho
      subst ho
      refine ⟨rfl, ?_⟩
      have h11 := hF.slotK (i := 1) (s := 11) (v := .string S9) rfl (hdep ⟨1, .data⟩ (by simp) rfl) rfl
      have h14 := hF.slotK (i := 4) (s := 14) (v := .string S9) rfl (hdep ⟨4, .data⟩ (by simp) rfl) rfl
      exact owp_value (.bool false) (w' := W) (by clear hdep; go_simp) ⟨by simp [hl], hsz, hW, A2, c2, (fun h => hR13 (by rw [getD_set (by decide)] at h; exact h)), hF.putK 5 15 _ (by rw [hsz]; decide) rfl rfl⟩
    | 6, ho, hn =>
      simp only [List.getElem?_toArray, List.getElem?_cons_zero, List.getElem?_cons_succ, Option.some.injEq] at ho
      subst ho
      refine ⟨rfl, ?_⟩
      have h15 := hF.slotK (i := 5) (s := 15) (v := .bool false) rfl (hdep ⟨5, .data⟩ (by simp) rfl) rfl
      exact owp_value (.bool false) (w' := W) (by clear hdep; go_simp) ⟨by simp [hl], hsz, hW, A2, c2, (fun h => hR13 (by rw [getD_set (by decide)] at h; exact h)), hF.putK 6 16 _ (by rw [hsz]; decide) rfl rfl⟩
    | 7, ho, hn =>
      simp only [List.getElem?_toArray, List.getElem?_cons_zero, List.getElem?_cons_succ, Option.some.injEq] at ho
      subst ho
      refine ⟨wanted_of (j := 6) (s := 16) (b := false) rfl rfl rfl (hF.slotK (i := 6) (s := 16) (v := .bool false) rfl (hdep ⟨6, .guard⟩ (by simp) rfl) rfl), ?_⟩
      have h2 : a.tmps[2]?.getD undef = .pointer (some ⟨b2, 0, none⟩) := hF.baseK 2 rfl rfl
      have hld := run_loadVar_row W b2 33 33 C (0, 0) _ ((hW.block _ (lt_heap HBX.out)).trans HBX.out) Try.underlying33 rfl (HI36.out.trans (by rw [HSZ.out]))
      refine owp_value (.agg C) (w' := W) ?_ ⟨by simp [hl], hsz, hW, A2, c2, (fun h => hR13 (by rw [getD_set (by decide)] at h; exact h)), hF.putK 7 17 _ (by rw [hsz]; decide) rfl rfl⟩
      clear hdep
      simp only [execOp, Act.eval, Array.getD_eq_getD_getElem?, h2, Instr.loadAt, Instr.sureAddr, Sem.run_bind, Sem.run_pure, Result.andThen_ok, hld]
      all_goals rfl
    | 8, ho, hn =>
      simp only [List.getElem?_toArray, List.getElem?_cons_zero, List.getElem?_cons_succ, Option.some.injEq] at ho
      subst ho
      refine ⟨wanted_of (j := 6) (s := 16) (b := false) rfl rfl rfl (hF.slotK (i := 6) (s := 16) (v := .bool false) rfl (hdep ⟨6, .guard⟩ (by simp) rfl) rfl), ?_⟩
      have h17 := hF.slotK (i := 7) (s := 17) (v := .agg C) rfl (hdep ⟨7, .data⟩ (by simp) rfl) rfl
      refine owp_call (fn := 17) (args := #[.agg C]) (by clear hdep; go_simp) ?_
      refine (HTU.out W).mono ?_
      rintro e w' ⟨rfl, hb⟩
      exact ⟨_, rfl, by simp [hl], hsz, hW.trans (hb.mono hW.size), A2, c2, (fun h => ((hR13 (by rw [getD_set (by decide)] at h; exact h)).keep hb).more hb.size), hF.putK 8 18 _ (by rw [hsz]; decide) rfl rfl⟩
    | 9, ho, hn =>
      simp only [List.getElem?_toArray, List.getElem?_cons_zero, List.getElem?_cons_succ, Option.some.injEq] at ho
      subst ho
      refine ⟨wanted_of (j := 6) (s := 16) (b := false) rfl rfl rfl (hF.slotK (i := 6) (s := 16) (v := .bool false) rfl (hdep ⟨6, .guard⟩ (by simp) rfl) rfl), ?_⟩
      have h2 : a.tmps[2]?.getD undef = .pointer (some ⟨b2, 0, none⟩) := hF.baseK 2 rfl rfl
      have hld := run_loadVar_row W b2 33 33 C (0, 0) _ ((hW.block _ (lt_heap HBX.out)).trans HBX.out) Try.underlying33 rfl (HI36.out.trans (by rw [HSZ.out]))
      refine owp_value (.agg C) (w' := W) ?_ ⟨by simp [hl], hsz, hW, A2, c2, (fun h => hR13 (by rw [getD_set (by decide)] at h; exact h)), hF.putK 9 19 _ (by rw [hsz]; decide) rfl rfl⟩
      clear hdep
      simp only [execOp, Act.eval, Array.getD_eq_getD_getElem?, h2, Instr.loadAt, Instr.sureAddr, Sem.run_bind, Sem.run_pure, Result.andThen_ok, hld]
      all_goals rfl
    | 10, ho, hn =>
      simp only [List.getElem?_toArray, List.getElem?_cons_zero, List.getElem?_cons_succ, Option.some.injEq] at ho
      subst ho
      refine ⟨wanted_of (j := 6) (s := 16) (b := false) rfl rfl rfl (hF.slotK (i := 6) (s := 16) (v := .bool false) rfl (hdep ⟨6, .guard⟩ (by simp) rfl) rfl), ?_⟩
      have h19 := hF.slotK (i := 9) (s := 19) (v := .agg C) rfl (hdep ⟨9, .data⟩ (by simp) rfl) rfl
      refine owp_call (fn := 18) (args := #[.agg C]) (by clear hdep; go_simp) ?_
      refine (HRTU.out W).mono ?_
      rintro e w' ⟨rfl, hb⟩
      exact ⟨_, rfl, by simp [hl], hsz, hW.trans (hb.mono hW.size), A2, c2, (fun h => ((hR13 (by rw [getD_set (by decide)] at h; exact h)).keep hb).more hb.size), hF.putK 10 20 _ (by rw [hsz]; decide) rfl rfl⟩
    | 11, ho, hn =>
      simp only [List.getElem?_toArray, List.getElem?_cons_zero, List.getElem?_cons_succ, Option.some.injEq] at ho
      subst ho
      refine ⟨wanted_of (j := 6) (s := 16) (b := false) rfl rfl rfl (hF.slotK (i := 6) (s := 16) (v := .bool false) rfl (hdep ⟨6, .guard⟩ (by simp) rfl) rfl), ?_⟩
      have h18 := hF.slotK (i := 8) (s := 18) (v := .int .u64 ((H9 : Nat) : Int)) rfl (hdep ⟨8, .data⟩ (by simp) rfl) rfl
      have h20 := hF.slotK (i := 10) (s := 20) (v := .int .u64 ((H9 : Nat) : Int)) rfl (hdep ⟨10, .data⟩ (by simp) rfl) rfl
      exact owp_value (.bool false) (w' := W) (by clear hdep; go_simp) ⟨by simp [hl], hsz, hW, A2, c2, (fun h => hR13 (by rw [getD_set (by decide)] at h; exact h)), hF.putK 11 21 _ (by rw [hsz]; decide) rfl rfl⟩
    | 12, ho, hn =>
      simp only [List.getElem?_toArray, List.getElem?_cons_zero, List.getElem?_cons_succ, Option.some.injEq] at ho
      subst ho
      refine ⟨rfl, ?_⟩
      have h16 := hF.slotK (i := 6) (s := 16) (v := .bool false) rfl (hdep ⟨6, .data⟩ (by simp) rfl) rfl
      have h21 := hF.slotK (i := 11) (s := 21) (v := .bool false) rfl (hdep ⟨11, .data⟩ (by simp) rfl) rfl
      exact owp_value (.bool false) (w' := W) (by clear hdep; go_simp) ⟨by simp [hl], hsz, hW, A2, c2, (fun h => hR13 (by rw [getD_set (by decide)] at h; exact h)), hF.putK 12 22 _ (by rw [hsz]; decide) rfl rfl⟩
    | i5 + 13, ho, hn => simp at ho
  · intro l a W1 hI hall
    obtain ⟨_, _, hW1, A2, c2, _, hF⟩ := hI
    have hall : ∀ i, i < 13 → l.getD i false = true := hall
    have ha := FrU.allB (K := ([(0, 10), (1, 11), (2, 12), (3, 13), (4, 14), (5, 15), (6, 16), (7, 17), (8, 18), (9, 19), (10, 20), (11, 21), (12, 22)] : List (Nat × Nat))) (V := (fun i => ([.slice A 14 c, .string S9, .agg C, .slice A2 14 c2, .string S9, .bool false, .bool false, .agg C, .int .u64 ((H9 : Nat) : Int), .agg C, .int .u64 ((H9 : Nat) : Int), .bool false, .bool false][i]?).getD undef)) (BL := ([(0, 10, .slice A 14 c), (1, 11, .string S9), (2, 12, .agg C), (3, 13, .slice A2 14 c2), (4, 14, .string S9), (5, 15, .bool false), (6, 16, .bool false), (7, 17, .agg C), (8, 18, .int .u64 ((H9 : Nat) : Int)), (9, 19, .agg C), (10, 20, .int .u64 ((H9 : Nat) : Int)), (11, 21, .bool false), (12, 22, .bool false)] : List (Nat × Nat × Value))) hF rfl (n := 13) hall rfl
    subst ha
    have HW1 := Lib.hid hW1
    clear hF hall hW1
    refine hKc _ _ ?_
    simp only [setAll, List.setIfInBounds_toArray, List.set_cons_succ, List.set_cons_zero]
    go_upto_region 5 with fail
    obtain ⟨g, hg⟩ := (HO4.out.keepOn HW1.out).at_ (by decide)
    subst hg
    have HM4 := Lib.hid (HO4.out.keepOn HW1.out)
    clear HO4 HW1
    go_loopw [25] (fun vi wr => ∃ (j : Nat) (f' : Nat → Int), vi = .int .i64 (j : Int) ∧ j ≤ 14 ∧ MO w wr [(b2, .cells C 33)] B (some ⟨g, 0, none⟩) 14 c f') (fun vi _ => 14 - (intOf vi).toNat)
    case atStart => exact ⟨0, f0, rfl, Nat.zero_le _, HM4.out⟩
    case round =>
      obtain ⟨j, f', rfl, hj, hm⟩ := hrel
      have HM5 := Lib.hid hm
      clear hm HM4
      by_cases hjn : j < 14
      · have i1 : (j : Int) < 14 := by omega
        have i0 : (0 : Int) ≤ (j : Int) := by omega
        have i2 : ((j : Int)).toNat = j := by omega
        have zj : IntKind.i64.wrap ((j : Int) + 1) = (j : Int) + 1 := by rw [IntKind.wrap_i64]; omega
        have y0 := (HM5.out.cells j hjn).1
        have y1 := (HM5.out.cells j hjn).2
        go_wp2_with fail
        go_roundw
        case rel => exact ⟨j + 1, _, by go_num, by omega, HM5.out.set (by decide) j _⟩
        case measure => simp [intOf]; omega
      · obtain rfl : j = 14 := by omega
        have i1 : ¬ (((14 : Nat) : Int)) < 14 := by omega
        have HX5 := Lib.hid (HM5.out.mem.get 0 rfl)
        have HL5 := Lib.hid HM5.out.below
        clear HM5
        go_upto_region 10 with (first
          | (refine wpList_load_row rfl 33 (.tmp 2) rfl b2 rfl 33 C (0, 0) _ HX5.out Try.underlying33 rfl (HI36.out.trans (by rw [HSZ.out])) ?_)
          | (refine wpList_store_row rfl 33 (.tmp 7) (.tmp 35) rfl wr.heap.size C rfl rfl 33 tupz (heap_alloc_new wr _) (HI36.out.trans (by rw [HSZ.out])) (by rw [HSZ.out]; rfl) HO1.out ?_))
        have HU6 : Hid (((wr.alloc (.cells tupz 33)).setRow wr.heap.size C).heap[wr.heap.size]? = some (.cells C 33 (0, 0))) := Lib.hid (setRow_heap _ _ _ C _ _ (heap_alloc_new wr _))
        have HNE : Hid (b2 ≠ wr.heap.size) := Lib.hid (Nat.ne_of_lt (lt_heap HX5.out))
        have HX6 : Hid (((wr.alloc (.cells tupz 33)).setRow wr.heap.size C).heap[b2]? = some (.cells C 33 (0, 0))) := Lib.hid ((setRow_other _ _ _ C HNE.out).trans (blk_old HX5.out _))
        have HLO : Hid (w.heap.size ≤ wr.heap.size) := Lib.hid HL5.out.size
        have HL6 : Hid (Below w.heap.size w ((wr.alloc (.cells tupz 33)).setRow wr.heap.size C)) := Lib.hid (below_setRow (HL5.out.alloc HL5.out.size _) HLO.out C)
        change Code.wp _ _ _ _ ((wr.alloc (.cells tupz 33)).setRow wr.heap.size C)
        obtain ⟨b7, hb7⟩ : ∃ z, z = wr.heap.size := ⟨_, rfl⟩
        rw [← hb7] at HU6 HNE HX6 HLO HL6 ⊢
        clear hb7 HX5 HL5
        generalize (wr.alloc (.cells tupz 33)).setRow b7 C = u6 at *
        have x0 : u6.cell? ⟨b2, 0, none⟩ = some (.bool false) := by
          rw [blk_cell HX6.out 0, HC.out]
          rfl
        obtain ⟨ko, hko⟩ : ∃ k, k = 4 + oo % 12 := ⟨_, rfl⟩
        have hk1 : ko < 16 := by omega
        have hk2 : 4 ≤ ko := by omega
        have zo : (4 : Int) + ((oo : Int).tmod 12) = (ko : Int) := by rw [Int.tmod_eq_emod_of_nonneg (by omega)]; omega
        have zo2 : (4 : Int) + ((oo : Int) % 12) = (ko : Int) := by omega
        have zw : IntKind.i64.wrap (ko : Int) = (ko : Int) := by rw [IntKind.wrap_i64]; omega
        have zc : IntKind.i64.wrap (oo : Int) = (oo : Int) := by rw [IntKind.wrap_i64]; omega
        have k0 : (0 : Int) ≤ (ko : Int) := by omega
        have k1 : (ko : Int) < 16 := by omega
        have k2 : ((ko : Int)).toNat = ko := by omega
        have xs : u6.cell? ⟨b7, 2 + ko, none⟩ = some (.int .u8 (s ko)) := by
          rw [blk_cell HU6.out (2 + ko), HC.out]
          exact tupc_s _ _ _ _ _ _ hk1
        have ys := blk_free HU6.out (2 + ko)
        have HKO := Lib.hid hko
        clear hko
        go_upto_region 12 with fail
        clear x0 xs ys
        obtain ⟨x1, hx1⟩ : ∃ x, x = bits .xor .u8 (s ko) (oo : Int) := ⟨_, rfl⟩
        have HX1 : Hid (0 ≤ x1 ∧ x1 ≤ 255) := Lib.hid (by rw [hx1]; exact xor8 _ _)
        have HU61 : Hid ((u6.setCell ⟨b7, 2 + ko, none⟩ (.int .u8 x1)).heap[b7]? = some (.cells (tupc false pr (upd s ko x1) d sp dp) 33 (0, 0))) := Lib.hid (by
          rw [blk_set HU6.out (2 + ko) (.int .u8 x1), HC.out, tupc_upd_s _ _ _ _ _ _ _ hk1])
        have HX61 : Hid ((u6.setCell ⟨b7, 2 + ko, none⟩ (.int .u8 x1)).heap[b2]? = some (.cells C 33 (0, 0))) := Lib.hid ((Below.heap_setCell u6 ⟨b7, 2 + ko, none⟩ (.int .u8 x1) b2 (fun e => HNE.out e)).trans HX6.out)
        have HL61 : Hid (Below w.heap.size w (u6.setCell ⟨b7, 2 + ko, none⟩ (.int .u8 x1))) := Lib.hid (HL6.out.setCell HLO.out _)
        rw [← hx1]
        clear hx1 HU6 HX6 HL6
        generalize u6.setCell ⟨b7, 2 + ko, none⟩ (.int .u8 x1) = u8 at *
        have xd : u8.cell? ⟨b7, 18 + ko, none⟩ = some (.int .u8 (d ko)) := by
          rw [blk_cell HU61.out (18 + ko)]
          exact tupc_d _ _ _ _ _ _ hk1
        have yd := blk_free HU61.out (18 + ko)
        go_upto_region 13 with fail
        clear xd yd
        obtain ⟨x2, hx2⟩ : ∃ x, x = bits .xor .u8 (d ko) (oo : Int) := ⟨_, rfl⟩
        have HX2 : Hid (0 ≤ x2 ∧ x2 ≤ 255) := Lib.hid (by rw [hx2]; exact xor8 _ _)
        have HU72 : Hid ((u8.setCell ⟨b7, 18 + ko, none⟩ (.int .u8 x2)).heap[b7]? = some (.cells (tupc false pr (upd s ko x1) (upd d ko x2) sp dp) 33 (0, 0))) := Lib.hid (by
          rw [blk_set HU61.out (18 + ko) (.int .u8 x2), tupc_upd_d _ _ _ _ _ _ _ hk1])
        have HX7 : Hid ((u8.setCell ⟨b7, 18 + ko, none⟩ (.int .u8 x2)).heap[b2]? = some (.cells C 33 (0, 0))) := Lib.hid ((Below.heap_setCell u8 ⟨b7, 18 + ko, none⟩ (.int .u8 x2) b2 (fun e => HNE.out e)).trans HX61.out)
        have HL7 : Hid (Below w.heap.size w (u8.setCell ⟨b7, 18 + ko, none⟩ (.int .u8 x2))) := Lib.hid (HL61.out.setCell HLO.out _)
        rw [← hx2]
        clear hx2 HU61 HX61 HL61
        generalize u8.setCell ⟨b7, 18 + ko, none⟩ (.int .u8 x2) = u7 at *
        have hs' : Byt (upd s ko x1) := upd_byt hs ko HX1.out
        have hd' : Byt (upd d ko x2) := upd_byt hd ko HX2.out
        have hfe : ∀ k, f0 k = tupB false pr (upd s ko x1) (upd d ko x2) sp dp k := fun k => by
          rw [HF0.out]
          refine tupB_same (fun j hj => ?_) (fun j hj => ?_) k
          · have hj : j < 4 := hj
            unfold upd
            rw [if_neg (by omega)]
          · have hj : j < 4 := hj
            unfold upd
            rw [if_neg (by omega)]
        have hfe2 : tupB false pr (upd s ko x1) (upd d ko x2) sp dp = f0 := (funext hfe).symm
        have HTV : Hid (∀ W : World, Calls Try.prog 17 #[.agg (tupc false pr (upd s ko x1) (upd d ko x2) sp dp)] W (ret (.int .u64 ((H9 : Nat) : Int)) W)) := Lib.hid fun W => by
          have h := HT.out.tuple false pr _ _ sp dp hp hs' hd' h1 h2 W
          rw [hfe2] at h
          rw [HH9.out]
          exact h
        have HBV : Hid (∀ W : World, Calls Try.prog 15 #[.agg (tupc false pr (upd s ko x1) (upd d ko x2) sp dp)] W fun e w' => ∃ A c, e = .returned (.slice A 14 c) ∧ Own w' W.heap.size 5 A 14 c f0 ∧ Below W.heap.size W w') := Lib.hid fun W => by
          have h := HT.out.bytes false pr _ _ sp dp hp hs' hd' h1 h2 W
          rw [hfe2] at h
          exact h
        obtain ⟨CU, hCU⟩ : ∃ CU, CU = tupc false pr (upd s ko x1) (upd d ko x2) sp dp := ⟨_, rfl⟩
        have HSU : Hid (CU.size = 36) := Lib.hid (by rw [hCU]; rfl)
        have HU7 : Hid (u7.heap[b7]? = some (.cells CU 33 (0, 0))) := Lib.hid (by rw [HU72.out, hCU])
        rw [← hCU] at HTV HBV
        clear hCU hfe hfe2 hs' hd' HU72 hk1 hk2 k0 k1 k2 zo zo2 zw zc
        rename_i Kc hKc
        refine wp_region_invG (fun a0 l a W => l.size = 18 ∧ a0.tmps.size = 78 ∧ Below u7.heap.size u7 W ∧ ∃ (A2 : Option Addr) (c2 : Nat), ∃ (A3 : Option Addr) (c3 : Nat), (l.getD 7 false = true → Rd W W.heap.size A2 14 f0) ∧ (l.getD 10 false = true → Rd W W.heap.size A3 14 f0) ∧ FrU a0 (kv ([(0, 61), (1, 62), (2, 63), (3, 64), (4, 65), (5, 66), (6, 67), (7, 68), (8, 69), (9, 70), (10, 71), (11, 72), (12, 73), (13, 74), (14, 75), (15, 76), (16, 77), (17, 4)] : List (Nat × Nat)) (fun i => ([.agg CU, .int .u64 ((H9 : Nat) : Int), .agg C, .int .u64 ((H9 : Nat) : Int), .bool true, .bool true, .agg CU, .slice A2 14 c2, .string S9, .agg C, .slice A3 14 c3, .string S9, .bool true, .bool true, .bool true, .bool true, .bool true, .bool true][i]?).getD undef)) l a) ?_ ?_ ?_ ?_ ?_ ?_
        · kernel_rfl
        · exact fun _ _ _ h => h.1
        · kernel_rfl
        · exact ⟨by simp, rfl, (Below.refl _ _).drew, none, 0, none, 0, (fun h => by rw [getD_none] at h; cases h), (fun h => by rw [getD_none] at h; cases h), FrU.start _ _ _⟩
        · intro l a W i5 o hI ho hn hdep
          obtain ⟨hl, hsz, hW, A2, c2, A3, c3, hR68, hR71, hF⟩ := hI

          match i5, ho, hn with
          | 0, ho, hn =>
            simp only [List.getElem?_toArray, List.getElem?_cons_zero, Option.some.injEq] at ho
            subst ho
            refine ⟨rfl, ?_⟩
            have h7 : a.tmps[7]?.getD undef = .pointer (some ⟨b7, 0, none⟩) := hF.baseK 7 rfl rfl
            have hld := run_loadVar_row W b7 33 33 CU (0, 0) _ ((hW.block _ (lt_heap HU7.out)).trans HU7.out) Try.underlying33 rfl (HI36.out.trans (by rw [HSU.out]))
            refine owp_value (.agg CU) (w' := W) ?_ ⟨by simp [hl], hsz, hW, A2, c2, A3, c3, (fun h => hR68 (by rw [getD_set (by decide)] at h; exact h)), (fun h => hR71 (by rw [getD_set (by decide)] at h; exact h)), hF.putK 0 61 _ (by rw [hsz]; decide) rfl rfl⟩
            clear hdep
            simp only [execOp, Act.eval, Array.getD_eq_getD_getElem?, h7, Instr.loadAt, Instr.sureAddr, Sem.run_bind, Sem.run_pure, Result.andThen_ok, hld]
            all_goals rfl
          | 1, ho, hn =>
            simp only [List.getElem?_toArray, List.getElem?_cons_zero, List.getElem?_cons_succ, Option.some.injEq] at ho
            subst ho
            refine ⟨rfl, ?_⟩
            have h61 := hF.slotK (i := 0) (s := 61) (v := .agg CU) rfl (hdep ⟨0, .data⟩ (by simp) rfl) rfl
            refine owp_call (fn := 17) (args := #[.agg CU]) (by clear hdep; go_simp) ?_
            refine (HTV.out W).mono ?_
            rintro e w' ⟨rfl, hb⟩
            exact ⟨_, rfl, by simp [hl], hsz, hW.trans (hb.mono hW.size), A2, c2, A3, c3, (fun h => ((hR68 (by rw [getD_set (by decide)] at h; exact h)).keep hb).more hb.size), (fun h => ((hR71 (by rw [getD_set (by decide)] at h; exact h)).keep hb).more hb.size), hF.putK 1 62 _ (by rw [hsz]; decide) rfl rfl⟩
          | 2, ho, hn =>
            simp only [List.getElem?_toArray, List.getElem?_cons_zero, List.getElem?_cons_succ, Option.some.injEq] at ho
            subst ho
            refine ⟨rfl, ?_⟩
            have h2 : a.tmps[2]?.getD undef = .pointer (some ⟨b2, 0, none⟩) := hF.baseK 2 rfl rfl
            have hld := run_loadVar_row W b2 33 33 C (0, 0) _ ((hW.block _ (lt_heap HX7.out)).trans HX7.out) Try.underlying33 rfl (HI36.out.trans (by rw [HSZ.out]))
            refine owp_value (.agg C) (w' := W) ?_ ⟨by simp [hl], hsz, hW, A2, c2, A3, c3, (fun h => hR68 (by rw [getD_set (by decide)] at h; exact h)), (fun h => hR71 (by rw [getD_set (by decide)] at h; exact h)), hF.putK 2 63 _ (by rw [hsz]; decide) rfl rfl⟩
            clear hdep
            simp only [execOp, Act.eval, Array.getD_eq_getD_getElem?, h2, Instr.loadAt, Instr.sureAddr, Sem.run_bind, Sem.run_pure, Result.andThen_ok, hld]
            all_goals rfl
          | 3, ho, hn =>
            simp only [List.getElem?_toArray, List.getElem?_cons_zero, List.getElem?_cons_succ, Option.some.injEq] at ho
            subst ho
            refine ⟨rfl, ?_⟩
            have h63 := hF.slotK (i := 2) (s := 63) (v := .agg C) rfl (hdep ⟨2, .data⟩ (by simp) rfl) rfl
            refine owp_call (fn := 17) (args := #[.agg C]) (by clear hdep; go_simp) ?_
            refine (HTU.out W).mono ?_
            rintro e w' ⟨rfl, hb⟩
            exact ⟨_, rfl, by simp [hl], hsz, hW.trans (hb.mono hW.size), A2, c2, A3, c3, (fun h => ((hR68 (by rw [getD_set (by decide)] at h; exact h)).keep hb).more hb.size), (fun h => ((hR71 (by rw [getD_set (by decide)] at h; exact h)).keep hb).more hb.size), hF.putK 3 64 _ (by rw [hsz]; decide) rfl rfl⟩
          | 4, ho, hn =>
            simp only [List.getElem?_toArray, List.getElem?_cons_zero, List.getElem?_cons_succ, Option.some.injEq] at ho
            subst ho
            refine ⟨rfl, ?_⟩
            have h62 := hF.slotK (i := 1) (s := 62) (v := .int .u64 ((H9 : Nat) : Int)) rfl (hdep ⟨1, .data⟩ (by simp) rfl) rfl
            have h64 := hF.slotK (i := 3) (s := 64) (v := .int .u64 ((H9 : Nat) : Int)) rfl (hdep ⟨3, .data⟩ (by simp) rfl) rfl
            exact owp_value (.bool true) (w' := W) (by clear hdep; go_simp) ⟨by simp [hl], hsz, hW, A2, c2, A3, c3, (fun h => hR68 (by rw [getD_set (by decide)] at h; exact h)), (fun h => hR71 (by rw [getD_set (by decide)] at h; exact h)), hF.putK 4 65 _ (by rw [hsz]; decide) rfl rfl⟩
          | 5, ho, hn =>
            simp only [List.getElem?_toArray, List.getElem?_cons_zero, List.getElem?_cons_succ, Option.some.injEq] at ho
            subst ho
            refine ⟨rfl, ?_⟩
            have h65 := hF.slotK (i := 4) (s := 65) (v := .bool true) rfl (hdep ⟨4, .data⟩ (by simp) rfl) rfl
            exact owp_value (.bool true) (w' := W) (by clear hdep; go_simp) ⟨by simp [hl], hsz, hW, A2, c2, A3, c3, (fun h => hR68 (by rw [getD_set (by decide)] at h; exact h)), (fun h => hR71 (by rw [getD_set (by decide)] at h; exact h)), hF.putK 5 66 _ (by rw [hsz]; decide) rfl rfl⟩
          | 6, ho, hn =>
            simp only [List.getElem?_toArray, List.getElem?_cons_zero, List.getElem?_cons_succ, Option.some.injEq] at ho
            subst ho
            refine ⟨wanted_of (j := 5) (s := 66) (b := true) rfl rfl rfl (hF.slotK (i := 5) (s := 66) (v := .bool true) rfl (hdep ⟨5, .guard⟩ (by simp) rfl) rfl), ?_⟩
            have h7 : a.tmps[7]?.getD undef = .pointer (some ⟨b7, 0, none⟩) := hF.baseK 7 rfl rfl
            have hld := run_loadVar_row W b7 33 33 CU (0, 0) _ ((hW.block _ (lt_heap HU7.out)).trans HU7.out) Try.underlying33 rfl (HI36.out.trans (by rw [HSU.out]))
            refine owp_value (.agg CU) (w' := W) ?_ ⟨by simp [hl], hsz, hW, A2, c2, A3, c3, (fun h => hR68 (by rw [getD_set (by decide)] at h; exact h)), (fun h => hR71 (by rw [getD_set (by decide)] at h; exact h)), hF.putK 6 67 _ (by rw [hsz]; decide) rfl rfl⟩
            clear hdep
            simp only [execOp, Act.eval, Array.getD_eq_getD_getElem?, h7, Instr.loadAt, Instr.sureAddr, Sem.run_bind, Sem.run_pure, Result.andThen_ok, hld]
            all_goals rfl
          | 7, ho, hn =>
            simp only [List.getElem?_toArray, List.getElem?_cons_zero, List.getElem?_cons_succ, Option.some.injEq] at ho
            subst ho
            refine ⟨wanted_of (j := 5) (s := 66) (b := true) rfl rfl rfl (hF.slotK (i := 5) (s := 66) (v := .bool true) rfl (hdep ⟨5, .guard⟩ (by simp) rfl) rfl), ?_⟩
            have h67 := hF.slotK (i := 6) (s := 67) (v := .agg CU) rfl (hdep ⟨6, .data⟩ (by simp) rfl) rfl
            refine owp_call (fn := 15) (args := #[.agg CU]) (by clear hdep; go_simp) ?_
            refine (HBV.out W).mono ?_
            rintro e w' ⟨A29, c29, rfl, hown, hb⟩
            have hrd := hown.rd
            have hF2 := hF.swapK (V' := (fun i => ([.agg CU, .int .u64 ((H9 : Nat) : Int), .agg C, .int .u64 ((H9 : Nat) : Int), .bool true, .bool true, .agg CU, .slice A29 14 c29, .string S9, .agg C, .slice A3 14 c3, .string S9, .bool true, .bool true, .bool true, .bool true, .bool true, .bool true][i]?).getD undef)) 7 hn (fun q hq => by
              match q with
              | 0 => rfl
              | 1 => rfl
              | 2 => rfl
              | 3 => rfl
              | 4 => rfl
              | 5 => rfl
              | 6 => rfl
              | 7 => exact absurd rfl hq
              | 8 => rfl
              | 9 => rfl
              | 10 => rfl
              | 11 => rfl
              | 12 => rfl
              | 13 => rfl
              | 14 => rfl
              | 15 => rfl
              | 16 => rfl
              | 17 => rfl
              | q + 18 => rfl)
            exact ⟨_, rfl, by simp [hl], hsz, hW.trans (hb.mono hW.size), A29, c29, A3, c3, (fun _ => hrd), (fun h => ((hR71 (by rw [getD_set (by decide)] at h; exact h)).keep hb).more hb.size), hF2.putK 7 68 _ (by rw [hsz]; decide) rfl rfl⟩
          | 8, ho, hn =>
            simp only [List.getElem?_toArray, List.getElem?_cons_zero, List.getElem?_cons_succ, Option.some.injEq] at ho
            subst ho
            refine ⟨wanted_of (j := 5) (s := 66) (b := true) rfl rfl rfl (hF.slotK (i := 5) (s := 66) (v := .bool true) rfl (hdep ⟨5, .guard⟩ (by simp) rfl) rfl), ?_⟩
            have h68 := hF.slotK (i := 7) (s := 68) (v := .slice A2 14 c2) rfl (hdep ⟨7, .data⟩ (by simp) rfl) rfl
            have hcv := run_convert_rd (P := Try.prog) (hR68 (hdep ⟨7, .data⟩ (by simp) rfl)) 23 5 9 c2 Try.underlying23 Try.underlying5 Try.underlying9
            rw [← HS9.out] at hcv
            refine owp_value (.string S9) (w' := W) (by clear hdep; go_simp) ⟨by simp [hl], hsz, hW, A2, c2, A3, c3, (fun h => hR68 (by rw [getD_set (by decide)] at h; exact h)), (fun h => hR71 (by rw [getD_set (by decide)] at h; exact h)), hF.putK 8 69 _ (by rw [hsz]; decide) rfl rfl⟩
          | 9, ho, hn =>
            simp only [List.getElem?_toArray, List.getElem?_cons_zero, List.getElem?_cons_succ, Option.some.injEq] at ho
            subst ho
            refine ⟨wanted_of (j := 5) (s := 66) (b := true) rfl rfl rfl (hF.slotK (i := 5) (s := 66) (v := .bool true) rfl (hdep ⟨5, .guard⟩ (by simp) rfl) rfl), ?_⟩
            have h2 : a.tmps[2]?.getD undef = .pointer (some ⟨b2, 0, none⟩) := hF.baseK 2 rfl rfl
            have hld := run_loadVar_row W b2 33 33 C (0, 0) _ ((hW.block _ (lt_heap HX7.out)).trans HX7.out) Try.underlying33 rfl (HI36.out.trans (by rw [HSZ.out]))
            refine owp_value (.agg C) (w' := W) ?_ ⟨by simp [hl], hsz, hW, A2, c2, A3, c3, (fun h => hR68 (by rw [getD_set (by decide)] at h; exact h)), (fun h => hR71 (by rw [getD_set (by decide)] at h; exact h)), hF.putK 9 70 _ (by rw [hsz]; decide) rfl rfl⟩
            clear hdep
            simp only [execOp, Act.eval, Array.getD_eq_getD_getElem?, h2, Instr.loadAt, Instr.sureAddr, Sem.run_bind, Sem.run_pure, Result.andThen_ok, hld]
            all_goals rfl
          | 10, ho, hn =>
            simp only [List.getElem?_toArray, List.getElem?_cons_zero, List.getElem?_cons_succ, Option.some.injEq] at ho
            subst ho
            refine ⟨wanted_of (j := 5) (s := 66) (b := true) rfl rfl rfl (hF.slotK (i := 5) (s := 66) (v := .bool true) rfl (hdep ⟨5, .guard⟩ (by simp) rfl) rfl), ?_⟩
            have h70 := hF.slotK (i := 9) (s := 70) (v := .agg C) rfl (hdep ⟨9, .data⟩ (by simp) rfl) rfl
            refine owp_call (fn := 16) (args := #[.agg C]) (by clear hdep; go_simp) ?_
            refine (HRBY.out W).mono ?_
            rintro e w' ⟨A39, c39, rfl, hown, hb⟩
            have hrd := hown.rd
            have hF2 := hF.swapK (V' := (fun i => ([.agg CU, .int .u64 ((H9 : Nat) : Int), .agg C, .int .u64 ((H9 : Nat) : Int), .bool true, .bool true, .agg CU, .slice A2 14 c2, .string S9, .agg C, .slice A39 14 c39, .string S9, .bool true, .bool true, .bool true, .bool true, .bool true, .bool true][i]?).getD undef)) 10 hn (fun q hq => by
              match q with
              | 0 => rfl
              | 1 => rfl
              | 2 => rfl
              | 3 => rfl
              | 4 => rfl
              | 5 => rfl
              | 6 => rfl
              | 7 => rfl
              | 8 => rfl
              | 9 => rfl
              | 10 => exact absurd rfl hq
              | 11 => rfl
              | 12 => rfl
              | 13 => rfl
              | 14 => rfl
              | 15 => rfl
              | 16 => rfl
              | 17 => rfl
              | q + 18 => rfl)
            exact ⟨_, rfl, by simp [hl], hsz, hW.trans (hb.mono hW.size), A2, c2, A39, c39, (fun h => ((hR68 (by rw [getD_set (by decide)] at h; exact h)).keep hb).more hb.size), (fun _ => hrd), hF2.putK 10 71 _ (by rw [hsz]; decide) rfl rfl⟩
          | 11, ho, hn =>
            simp only [List.getElem?_toArray, List.getElem?_cons_zero, List.getElem?_cons_succ, Option.some.injEq] at ho
            subst ho
            refine ⟨wanted_of (j := 5) (s := 66) (b := true) rfl rfl rfl (hF.slotK (i := 5) (s := 66) (v := .bool true) rfl (hdep ⟨5, .guard⟩ (by simp) rfl) rfl), ?_⟩
            have h71 := hF.slotK (i := 10) (s := 71) (v := .slice A3 14 c3) rfl (hdep ⟨10, .data⟩ (by simp) rfl) rfl
            have hcv := run_convert_rd (P := Try.prog) (hR71 (hdep ⟨10, .data⟩ (by simp) rfl)) 23 5 9 c3 Try.underlying23 Try.underlying5 Try.underlying9
            rw [← HS9.out] at hcv
            refine owp_value (.string S9) (w' := W) (by clear hdep; go_simp) ⟨by simp [hl], hsz, hW, A2, c2, A3, c3, (fun h => hR68 (by rw [getD_set (by decide)] at h; exact h)), (fun h => hR71 (by rw [getD_set (by decide)] at h; exact h)), hF.putK 11 72 _ (by rw [hsz]; decide) rfl rfl⟩
          | 12, ho, hn =>
            simp only [List.getElem?_toArray, List.getElem?_cons_zero, List.getElem?_cons_succ, Option.some.injEq] at ho
            subst ho
            refine ⟨wanted_of (j := 5) (s := 66) (b := true) rfl rfl rfl (hF.slotK (i := 5) (s := 66) (v := .bool true) rfl (hdep ⟨5, .guard⟩ (by simp) rfl) rfl), ?_⟩
            have h69 := hF.slotK (i := 8) (s := 69) (v := .string S9) rfl (hdep ⟨8, .data⟩ (by simp) rfl) rfl
            have h72 := hF.slotK (i := 11) (s := 72) (v := .string S9) rfl (hdep ⟨11, .data⟩ (by simp) rfl) rfl
            exact owp_value (.bool true) (w' := W) (by clear hdep; go_simp) ⟨by simp [hl], hsz, hW, A2, c2, A3, c3, (fun h => hR68 (by rw [getD_set (by decide)] at h; exact h)), (fun h => hR71 (by rw [getD_set (by decide)] at h; exact h)), hF.putK 12 73 _ (by rw [hsz]; decide) rfl rfl⟩
          | 13, ho, hn =>
            simp only [List.getElem?_toArray, List.getElem?_cons_zero, List.getElem?_cons_succ, Option.some.injEq] at ho
            subst ho
            refine ⟨rfl, ?_⟩
            have h66 := hF.slotK (i := 5) (s := 66) (v := .bool true) rfl (hdep ⟨5, .data⟩ (by simp) rfl) rfl
            have h73 := hF.slotK (i := 12) (s := 73) (v := .bool true) rfl (hdep ⟨12, .data⟩ (by simp) rfl) rfl
            exact owp_value (.bool true) (w' := W) (by clear hdep; go_simp) ⟨by simp [hl], hsz, hW, A2, c2, A3, c3, (fun h => hR68 (by rw [getD_set (by decide)] at h; exact h)), (fun h => hR71 (by rw [getD_set (by decide)] at h; exact h)), hF.putK 13 74 _ (by rw [hsz]; decide) rfl rfl⟩
          | 14, ho, hn =>
            simp only [List.getElem?_toArray, List.getElem?_cons_zero, List.getElem?_cons_succ, Option.some.injEq] at ho
            subst ho
            refine ⟨rfl, ?_⟩
            have h74 := hF.slotK (i := 13) (s := 74) (v := .bool true) rfl (hdep ⟨13, .data⟩ (by simp) rfl) rfl
            exact owp_value (.bool true) (w' := W) (by clear hdep; go_simp) ⟨by simp [hl], hsz, hW, A2, c2, A3, c3, (fun h => hR68 (by rw [getD_set (by decide)] at h; exact h)), (fun h => hR71 (by rw [getD_set (by decide)] at h; exact h)), hF.putK 14 75 _ (by rw [hsz]; decide) rfl rfl⟩
          | 15, ho, hn =>
            simp only [List.getElem?_toArray, List.getElem?_cons_zero, List.getElem?_cons_succ, Option.some.injEq] at ho
            subst ho
            refine ⟨wanted_of (j := 14) (s := 75) (b := true) rfl rfl rfl (hF.slotK (i := 14) (s := 75) (v := .bool true) rfl (hdep ⟨14, .guard⟩ (by simp) rfl) rfl), ?_⟩
            refine owp_call (fn := 6) (args := #[]) (by clear hdep; go_simp) ?_
            refine (HK.out W).mono ?_
            rintro e w' ⟨rfl, hb⟩
            exact ⟨_, rfl, by simp [hl], hsz, hW.trans (hb.mono hW.size), A2, c2, A3, c3, (fun h => ((hR68 (by rw [getD_set (by decide)] at h; exact h)).keep hb).more hb.size), (fun h => ((hR71 (by rw [getD_set (by decide)] at h; exact h)).keep hb).more hb.size), hF.putK 15 76 _ (by rw [hsz]; decide) rfl rfl⟩
          | 16, ho, hn =>
            simp only [List.getElem?_toArray, List.getElem?_cons_zero, List.getElem?_cons_succ, Option.some.injEq] at ho
            subst ho
            refine ⟨rfl, ?_⟩
            have h75 := hF.slotK (i := 14) (s := 75) (v := .bool true) rfl (hdep ⟨14, .data⟩ (by simp) rfl) rfl
            have h76 := hF.slotK (i := 15) (s := 76) (v := .bool true) rfl (hdep ⟨15, .data⟩ (by simp) rfl) rfl
            exact owp_value (.bool true) (w' := W) (by clear hdep; go_simp) ⟨by simp [hl], hsz, hW, A2, c2, A3, c3, (fun h => hR68 (by rw [getD_set (by decide)] at h; exact h)), (fun h => hR71 (by rw [getD_set (by decide)] at h; exact h)), hF.putK 16 77 _ (by rw [hsz]; decide) rfl rfl⟩
          | 17, ho, hn =>
            simp only [List.getElem?_toArray, List.getElem?_cons_zero, List.getElem?_cons_succ, Option.some.injEq] at ho
            subst ho
            refine ⟨rfl, ?_⟩
            have h77 := hF.slotK (i := 16) (s := 77) (v := .bool true) rfl (hdep ⟨16, .data⟩ (by simp) rfl) rfl
            exact owp_value (.bool true) (w' := W) (by clear hdep; go_simp) ⟨by simp [hl], hsz, hW, A2, c2, A3, c3, (fun h => hR68 (by rw [getD_set (by decide)] at h; exact h)), (fun h => hR71 (by rw [getD_set (by decide)] at h; exact h)), hF.putK 17 4 _ (by rw [hsz]; decide) rfl rfl⟩
          | i5 + 18, ho, hn => simp at ho
        · intro l a W1 hI hall
          obtain ⟨_, _, hW1, A2, c2, A3, c3, _, _, hF⟩ := hI
          have hall : ∀ i, i < 18 → l.getD i false = true := hall
          have ha := FrU.allB (K := ([(0, 61), (1, 62), (2, 63), (3, 64), (4, 65), (5, 66), (6, 67), (7, 68), (8, 69), (9, 70), (10, 71), (11, 72), (12, 73), (13, 74), (14, 75), (15, 76), (16, 77), (17, 4)] : List (Nat × Nat))) (V := (fun i => ([.agg CU, .int .u64 ((H9 : Nat) : Int), .agg C, .int .u64 ((H9 : Nat) : Int), .bool true, .bool true, .agg CU, .slice A2 14 c2, .string S9, .agg C, .slice A3 14 c3, .string S9, .bool true, .bool true, .bool true, .bool true, .bool true, .bool true][i]?).getD undef)) (BL := ([(0, 61, .agg CU), (1, 62, .int .u64 ((H9 : Nat) : Int)), (2, 63, .agg C), (3, 64, .int .u64 ((H9 : Nat) : Int)), (4, 65, .bool true), (5, 66, .bool true), (6, 67, .agg CU), (7, 68, .slice A2 14 c2), (8, 69, .string S9), (9, 70, .agg C), (10, 71, .slice A3 14 c3), (11, 72, .string S9), (12, 73, .bool true), (13, 74, .bool true), (14, 75, .bool true), (15, 76, .bool true), (16, 77, .bool true), (17, 4, .bool true)] : List (Nat × Nat × Value))) hF rfl (n := 18) hall rfl
          subst ha
          have HW1 := Lib.hid hW1
          clear hF hall hW1
          refine hKc _ _ ?_
          simp only [setAll, List.setIfInBounds_toArray, List.set_cons_succ, List.set_cons_zero]
          go_wp2_with fail
          go_ret
          exact ⟨rfl, HL7.out.trans (HW1.out.mono HL7.out.size)⟩
theorem htuples_any (H : HashP) (HTT : HashT) (v6 : Bool) (pr : Int) (s d : Nat → Int) (sp dp : Int) (hp : 0 ≤ pr ∧ pr ≤ 255) (hs : Byt s) (hd : Byt d) (h1 : 0 ≤ sp ∧ sp ≤ 65535) (h2 : 0 ≤ dp ∧ dp ≤ 65535) (oo : Nat) (hoo : oo < 256) (w : World) : Calls Try.prog 4 #[.agg (tupc v6 pr s d sp dp), .int .u8 (oo : Int)] w (ret (.bool true) w) := by
  cases v6
  · exact htuples_false H HTT pr s d sp dp hp hs hd h1 h2 oo hoo w
  · exact htuples_true H HTT pr s d sp dp hp hs hd h1 h2 oo hoo w
end Go.Proofs.Ytlodkmidnhcmaaa
