/- Stage 10: SlotsPlay. -/
import Derived.Test.YthlnhkkjpjbmeaaXh
namespace Go.Proofs.Ythlnhkkjpjbmeaa
set_option maxRecDepth 100000
open Go.RowKit Go.Shelf
theorem plays_long (a b : Int) (A : Option Addr) (m c : Nat) (hm : 80 < m) (w : World) : Calls Try.prog 3 #[.int .i64 a, .int .i64 b, .slice A m c] w (ret (.bool true) w) := by
  have h1 : (80 : Int) < (m : Int) := by omega
  go_enter Try.func3, Try.ntmps3
  go_wp2_with (first
    | (go_at_call 6
       refine (known_any w).mono ?_
       rintro e u ⟨rfl, hb⟩))
  go_ret
  exact ⟨rfl, hb⟩
theorem plays_many (a b : Int) (A : Option Addr) (m c : Nat) (hm : m ≤ 80) (ha : 12 < a) (ha2 : a ≤ 4096) (w : World) : Calls Try.prog 3 #[.int .i64 a, .int .i64 b, .slice A m c] w (ret (.bool true) w) := by
  have h1 : ¬ (80 : Int) < (m : Int) := by omega
  go_enter Try.func3, Try.ntmps3
  go_wp2_with (first
    | (go_at_call 6
       refine (known_any w).mono ?_
       rintro e u ⟨rfl, hb⟩))
  go_ret
  exact ⟨rfl, hb⟩
theorem plays_wide (a b : Int) (A : Option Addr) (m c : Nat) (hm : m ≤ 80) (hb : 60 < b) (hb2 : b ≤ 65536) (ha : ¬ (12 < a ∧ a ≤ 4096)) (w : World) : Calls Try.prog 3 #[.int .i64 a, .int .i64 b, .slice A m c] w (ret (.bool true) w) := by
  by_cases h2 : 12 < a
  · have h3 : ¬ a ≤ 4096 := by omega
    clear ha
    have h1 : ¬ (80 : Int) < (m : Int) := by omega
    go_enter Try.func3, Try.ntmps3
    go_wp2_with (first
      | (go_at_call 6
         refine (known_any w).mono ?_
         rintro e u ⟨rfl, hb⟩))
    go_ret
    exact ⟨rfl, hb⟩
  · clear ha
    have h1 : ¬ (80 : Int) < (m : Int) := by omega
    go_enter Try.func3, Try.ntmps3
    go_wp2_with (first
      | (go_at_call 6
         refine (known_any w).mono ?_
         rintro e u ⟨rfl, hb⟩))
    go_ret
    exact ⟨rfl, hb⟩
theorem plays_bad (a b : Int) (A : Option Addr) (m c : Nat) (hm : m ≤ 80) (h1 : ¬ (12 < a ∧ a ≤ 4096)) (h2 : ¬ (60 < b ∧ b ≤ 65536)) (hn : a < 1 ∨ 4096 < a ∨ b < 1 ∨ 65536 < b) (w : World) : Calls Try.prog 3 #[.int .i64 a, .int .i64 b, .slice A m c] w (ret (.bool true) w) := by
  have g1 : ¬ (80 : Int) < (m : Int) := by omega
  by_cases a1 : 12 < a
  · have a2 : ¬ a ≤ 4096 := by omega
    have a3 : ¬ a < 1 := by omega
    have a4 : 4096 < a := by omega
    by_cases b1 : 60 < b
    · have b2 : ¬ b ≤ 65536 := by omega
      clear h1 h2
      go_enter Try.func3, Try.ntmps3
      go_wp2_with (first
        | (go_at_call 7
           refine (pnew_bad w a b hn).mono ?_
           rintro e v ⟨rfl, hb⟩
           have HB := Lib.hid hb
           clear hb)
        | (go_at_call 6
           refine (known_any v).mono ?_
           rintro e u ⟨rfl, hb⟩))
      go_ret
      exact ⟨rfl, HB.out.trans (hb.mono HB.out.size)⟩
    · clear h1 h2
      go_enter Try.func3, Try.ntmps3
      go_wp2_with (first
        | (go_at_call 7
           refine (pnew_bad w a b hn).mono ?_
           rintro e v ⟨rfl, hb⟩
           have HB := Lib.hid hb
           clear hb)
        | (go_at_call 6
           refine (known_any v).mono ?_
           rintro e u ⟨rfl, hb⟩))
      go_ret
      exact ⟨rfl, HB.out.trans (hb.mono HB.out.size)⟩
  · have a2 : ¬ 4096 < a := by omega
    by_cases a3 : a < 1
    · by_cases b1 : 60 < b
      · have b2 : ¬ b ≤ 65536 := by omega
        clear h1 h2
        go_enter Try.func3, Try.ntmps3
        go_wp2_with (first
          | (go_at_call 7
             refine (pnew_bad w a b hn).mono ?_
             rintro e v ⟨rfl, hb⟩
             have HB := Lib.hid hb
             clear hb)
          | (go_at_call 6
             refine (known_any v).mono ?_
             rintro e u ⟨rfl, hb⟩))
        go_ret
        exact ⟨rfl, HB.out.trans (hb.mono HB.out.size)⟩
      · clear h1 h2
        go_enter Try.func3, Try.ntmps3
        go_wp2_with (first
          | (go_at_call 7
             refine (pnew_bad w a b hn).mono ?_
             rintro e v ⟨rfl, hb⟩
             have HB := Lib.hid hb
             clear hb)
          | (go_at_call 6
             refine (known_any v).mono ?_
             rintro e u ⟨rfl, hb⟩))
        go_ret
        exact ⟨rfl, HB.out.trans (hb.mono HB.out.size)⟩
    · by_cases b1 : 60 < b
      · have b2 : ¬ b ≤ 65536 := by omega
        have b3 : ¬ b < 1 := by omega
        have b4 : 65536 < b := by omega
        clear h1 h2
        go_enter Try.func3, Try.ntmps3
        go_wp2_with (first
          | (go_at_call 7
             refine (pnew_bad w a b hn).mono ?_
             rintro e v ⟨rfl, hb⟩
             have HB := Lib.hid hb
             clear hb)
          | (go_at_call 6
             refine (known_any v).mono ?_
             rintro e u ⟨rfl, hb⟩))
        go_ret
        exact ⟨rfl, HB.out.trans (hb.mono HB.out.size)⟩
      · have b3 : b < 1 := by omega
        clear h1 h2
        go_enter Try.func3, Try.ntmps3
        go_wp2_with (first
          | (go_at_call 7
             refine (pnew_bad w a b hn).mono ?_
             rintro e v ⟨rfl, hb⟩
             have HB := Lib.hid hb
             clear hb)
          | (go_at_call 6
             refine (known_any v).mono ?_
             rintro e u ⟨rfl, hb⟩))
        go_ret
        exact ⟨rfl, HB.out.trans (hb.mono HB.out.size)⟩
set_option maxHeartbeats 4000000 in
theorem plays_any (a b : Nat) (ha1 : 1 ≤ a) (ha2 : a ≤ 12) (hb1 : 1 ≤ b) (hb2 : b ≤ 60) (A : Option Addr) (m c : Nat) (f : Nat → Value) (hm : m ≤ 80) (hmc : m ≤ c) (hc9 : c ≤ 9223372036854775807) (w : World) (hr : RdC w w.heap.size A (m * 3) f)
    (hf : ∀ i, i < m → ∃ (κ li ci : Int), f (i * 3) = .int .i64 κ ∧ f (i * 3 + 1) = .int .i64 li ∧ f (i * 3 + 2) = .int .i64 ci) :
    Calls Try.prog 3 #[.int .i64 (a : Int), .int .i64 (b : Int), .slice A m c] w (ret (.bool true) w) := by
  have h1 : ¬ (80 : Int) < (m : Int) := by omega
  have h2 : ¬ (12 : Int) < (a : Int) := by omega
  have h3 : ¬ (60 : Int) < (b : Int) := by omega
  have h4 : ¬ (a : Int) < 1 := by omega
  have h5 : ¬ (4096 : Int) < (a : Int) := by omega
  have h6 : ¬ (b : Int) < 1 := by omega
  have h7 : ¬ (65536 : Int) < (b : Int) := by omega
  have HR := Lib.hid hr
  have HF := Lib.hid hf
  clear hr hf
  go_enter Try.func3, Try.ntmps3
  go_upto_region 8 with (first
    | (go_at_call 7
       refine (ST.new (wb := w) (X := fun _ => False) w (Below.refl _ _) (fun _ h => h.elim) b a hb1 (by omega) ha1 (by omega)).mono ?_
       rintro e u ⟨p0, rfl, hst, _⟩
       have HP := Lib.hid hst
       clear hst))
  go_upto_region 9 with (first
    | (go_at_call 8
       refine (two_new w (fun _ => False) p0 a b u HP.out ha1 (by omega)).mono ?_
       rintro e v ⟨q0, rfl, ht⟩
       have HT := Lib.hid ht
       clear ht))
  clear HP
  have HFN : Hid (Sl.new a b).Fit := Lib.hid (Sl.fit_new (by omega) (by omega))
  go_wp2_with fail
  go_loopw [7, 9, 79] (fun x y i wr => ∃ (k p q : Nat) (s : Sl), k ≤ m ∧ x = .pointer (some ⟨p, 0, none⟩) ∧ y = .pointer (some ⟨q, 0, none⟩) ∧ i = .int .i64 (k : Int) ∧ s.Fit ∧ TwoD w (fun _ => False) wr p q s s) (fun _ _ i _ => m - (intOf i).toNat)
  case atStart => exact ⟨0, p0, q0, Sl.new a b, Nat.zero_le _, rfl, rfl, rfl, HFN.out, HT.out⟩
  case round =>
    obtain ⟨k, p, q, s, hkm0, rfl, rfl, rfl, hS, hT⟩ := hrel
    have HS := Lib.hid hS
    have HTr := Lib.hid hT
    clear hS hT HT
    by_cases hkm : k < m
    · rcases HR.out with h0 | ⟨bA, off, rfl, hbl, hcl⟩
      · omega
      obtain ⟨κ, li, ci, hf0, hf1, hf2⟩ := HF.out k hkm
      have hcell : ∀ j, j < 3 → wr.cell? ⟨bA, off + (k * 3 + j), none⟩ = some (f (k * 3 + j)) := fun j hj => (HTr.out.below.cell (p := ⟨bA, off + (k * 3 + j), none⟩) hbl).trans (hcl _ (by omega))
      have z0 : wr.cell? ⟨bA, off + k * 3, none⟩ = some (.int .i64 κ) := by rw [← hf0]; exact hcell 0 (by omega)
      have z1 : wr.cell? ⟨bA, off + k * 3 + 1, none⟩ = some (.int .i64 li) := by rw [← hf1, Nat.add_assoc]; exact hcell 1 (by omega)
      have z2 : wr.cell? ⟨bA, off + k * 3 + 2, none⟩ = some (.int .i64 ci) := by rw [← hf2, Nat.add_assoc]; exact hcell 2 (by omega)
      clear hcell hcl hf0 hf1 hf2
      have i0 : (0 : Int) ≤ (k : Int) := by omega
      have i1 : (k : Int) < (m : Int) := by omega
      have i2 : ((k : Int)).toNat = k := by omega
      go_upto_region 13 with fail
      have HT1 : Hid (TwoD w (fun k => k = wr.heap.size) (wr.alloc (.cells #[.int .i64 κ, .int .i64 li, .int .i64 ci] 31)) p q s s) := Lib.hid ((HTr.out.more (Y := fun k => k = wr.heap.size) (below_alloc wr (.cells #[.int .i64 κ, .int .i64 li, .int .i64 ci] 31)) fun k e => by rw [e]; simp).less fun _ e => .inr e)
      have HO1 : Hid ((wr.alloc (.cells #[.int .i64 κ, .int .i64 li, .int .i64 ci] 31)).heap[wr.heap.size]? = some (.cells #[.int .i64 κ, .int .i64 li, .int .i64 ci] 31 (0, 0))) := Lib.hid (heap_alloc_new wr _)
      obtain ⟨b9, hb9⟩ : ∃ b, b = wr.heap.size := ⟨_, rfl⟩
      rw [← hb9] at HT1 HO1 ⊢
      clear hb9 HTr z0 z1 z2 HR HF i0 i1 i2
      generalize wr.alloc (.cells #[.int .i64 κ, .int .i64 li, .int .i64 ci] 31) = v1 at *
      have x0 : v1.cell? ⟨b9, 0, none⟩ = some (.int .i64 κ) := blk_cell HO1.out 0
      have zk : IntKind.i64.wrap ((k : Int) + 1) = (k : Int) + 1 := by rw [IntKind.wrap_i64]; omega
      go_upto_region 14 with fail
      clear x0
      by_cases c1 : κ = 1
      · subst c1
        have e0 : (0 : Int) = 0 := rfl
        clear e0
        have hEE : (s.pushE li ci == s.pushE li ci) = true := by simp
        go_upto_region 15 with fail
        rename_i Kc hKc
        refine wp_region_invG (fun a0 l a W => l.size = 14 ∧ a0.tmps.size = 179 ∧ TwoD w (fun k => k = b9) W p q (iffS (l.getD 5 false) (s.push li ci) s) (iffS (l.getD 11 false) (s.push li ci) s) ∧ W.heap[b9]? = some (.cells #[.int .i64 1, .int .i64 li, .int .i64 ci] 31 (0, 0)) ∧ FrU a0 ([(0, 87, .pointer (some ⟨p, 0, none⟩)), (1, 88, .pointer (some ⟨b9, 1, none⟩)), (2, 89, .int .i64 li), (3, 90, .pointer (some ⟨b9, 2, none⟩)), (4, 91, .int .i64 ci), (5, 92, .int .i64 (s.pushE li ci)), (6, 93, .pointer (some ⟨q, 0, none⟩)), (7, 94, .pointer (some ⟨b9, 1, none⟩)), (8, 95, .int .i64 li), (9, 96, .pointer (some ⟨b9, 2, none⟩)), (10, 97, .int .i64 ci), (11, 98, .int .i64 (s.pushE li ci)), (12, 99, .bool true), (13, 12, .bool true)] : List (Nat × Nat × Value)) l a) ?_ ?_ ?_ ?_ ?_ ?_
        · kernel_rfl
        · exact fun _ _ _ h => h.1
        · kernel_rfl
        · exact ⟨by simp, rfl, by rw [getD_none, getD_none]; exact HT1.out.step (Below.refl _ _).drew, HO1.out, FrU.start _ _ _⟩
        · intro l a W i5 o hI ho hn hdep
          obtain ⟨hl, hsz, hT, hO, hF⟩ := hI
          match i5, ho, hn with
          | 0, ho, hn =>
            simp only [List.getElem?_toArray, List.getElem?_cons_zero, Option.some.injEq] at ho
            subst ho
            refine ⟨rfl, ?_⟩
            have h7 : a.tmps[7]?.getD undef = .pointer (some ⟨p, 0, none⟩) := hF.base 7 (by simp) rfl
            exact owp_value (.pointer (some ⟨p, 0, none⟩)) (w' := W) (by clear hdep; go_simp) ⟨by simp [hl], hsz, by rw [iffS_ne (by decide), iffS_ne (by decide)]; exact hT, hO, hF.put 0 87 _ (by rw [hsz]; decide) (by simp) (by simp) (by simp)⟩
          | 1, ho, hn =>
            simp only [List.getElem?_toArray, List.getElem?_cons_zero, List.getElem?_cons_succ, Option.some.injEq] at ho
            subst ho
            refine ⟨rfl, ?_⟩
            have h11 : a.tmps[11]?.getD undef = .pointer (some ⟨b9, 0, none⟩) := hF.base 11 (by simp) rfl
            exact owp_value (.pointer (some ⟨b9, 1, none⟩)) (w' := W) (by clear hdep; go_simp) ⟨by simp [hl], hsz, by rw [iffS_ne (by decide), iffS_ne (by decide)]; exact hT, hO, hF.put 1 88 _ (by rw [hsz]; decide) (by simp) (by simp) (by simp)⟩
          | 2, ho, hn =>
            simp only [List.getElem?_toArray, List.getElem?_cons_zero, List.getElem?_cons_succ, Option.some.injEq] at ho
            subst ho
            refine ⟨rfl, ?_⟩
            have h88 : a.tmps[88]?.getD undef = .pointer (some ⟨b9, 1, none⟩) := hF.slot (i := 1) (s := 88) (v := .pointer (some ⟨b9, 1, none⟩)) (by simp) (hdep ⟨1, .data⟩ (by simp) rfl)
            have hld : W.cell? ⟨b9, 1, none⟩ = some (.int .i64 li) := blk_cell hO 1
            exact owp_value (.int .i64 li) (w' := W) (by clear hdep; go_simp) ⟨by simp [hl], hsz, by rw [iffS_ne (by decide), iffS_ne (by decide)]; exact hT, hO, hF.put 2 89 _ (by rw [hsz]; decide) (by simp) (by simp) (by simp)⟩
          | 3, ho, hn =>
            simp only [List.getElem?_toArray, List.getElem?_cons_zero, List.getElem?_cons_succ, Option.some.injEq] at ho
            subst ho
            refine ⟨rfl, ?_⟩
            have h11 : a.tmps[11]?.getD undef = .pointer (some ⟨b9, 0, none⟩) := hF.base 11 (by simp) rfl
            exact owp_value (.pointer (some ⟨b9, 2, none⟩)) (w' := W) (by clear hdep; go_simp) ⟨by simp [hl], hsz, by rw [iffS_ne (by decide), iffS_ne (by decide)]; exact hT, hO, hF.put 3 90 _ (by rw [hsz]; decide) (by simp) (by simp) (by simp)⟩
          | 4, ho, hn =>
            simp only [List.getElem?_toArray, List.getElem?_cons_zero, List.getElem?_cons_succ, Option.some.injEq] at ho
            subst ho
            refine ⟨rfl, ?_⟩
            have h90 : a.tmps[90]?.getD undef = .pointer (some ⟨b9, 2, none⟩) := hF.slot (i := 3) (s := 90) (v := .pointer (some ⟨b9, 2, none⟩)) (by simp) (hdep ⟨3, .data⟩ (by simp) rfl)
            have hld : W.cell? ⟨b9, 2, none⟩ = some (.int .i64 ci) := blk_cell hO 2
            exact owp_value (.int .i64 ci) (w' := W) (by clear hdep; go_simp) ⟨by simp [hl], hsz, by rw [iffS_ne (by decide), iffS_ne (by decide)]; exact hT, hO, hF.put 4 91 _ (by rw [hsz]; decide) (by simp) (by simp) (by simp)⟩
          | 5, ho, hn =>
            simp only [List.getElem?_toArray, List.getElem?_cons_zero, List.getElem?_cons_succ, Option.some.injEq] at ho
            subst ho
            refine ⟨rfl, ?_⟩
            have h87 : a.tmps[87]?.getD undef = .pointer (some ⟨p, 0, none⟩) := hF.slot (i := 0) (s := 87) (v := .pointer (some ⟨p, 0, none⟩)) (by simp) (hdep ⟨0, .data⟩ (by simp) rfl)
            have h89 : a.tmps[89]?.getD undef = .int .i64 li := hF.slot (i := 2) (s := 89) (v := .int .i64 li) (by simp) (hdep ⟨2, .data⟩ (by simp) rfl)
            have h91 : a.tmps[91]?.getD undef = .int .i64 ci := hF.slot (i := 4) (s := 91) (v := .int .i64 ci) (by simp) (hdep ⟨4, .data⟩ (by simp) rfl)
            rw [getD_no hn] at hT
            have hTs : TwoD w (fun k => k = b9) W p q s (iffS (l.getD 11 false) (s.push li ci) s) := hT
            refine owp_call (fn := 9) (args := #[.pointer (some ⟨p, 0, none⟩), .int .i64 li, .int .i64 ci]) (by clear hdep; go_simp) ?_
            refine (hTs.push HS.out li ci).mono ?_
            rintro e w' ⟨rfl, ht, hx⟩
            exact ⟨_, rfl, by simp [hl], hsz, by rw [iffS_at hn, iffS_ne (show 11 ≠ 5 by decide)]; exact ht, (hx b9 rfl).trans hO, hF.put 5 92 _ (by rw [hsz]; decide) (by simp) (by simp) (by simp)⟩
          | 6, ho, hn =>
            simp only [List.getElem?_toArray, List.getElem?_cons_zero, List.getElem?_cons_succ, Option.some.injEq] at ho
            subst ho
            refine ⟨rfl, ?_⟩
            have h9 : a.tmps[9]?.getD undef = .pointer (some ⟨q, 0, none⟩) := hF.base 9 (by simp) rfl
            exact owp_value (.pointer (some ⟨q, 0, none⟩)) (w' := W) (by clear hdep; go_simp) ⟨by simp [hl], hsz, by rw [iffS_ne (by decide), iffS_ne (by decide)]; exact hT, hO, hF.put 6 93 _ (by rw [hsz]; decide) (by simp) (by simp) (by simp)⟩
          | 7, ho, hn =>
            simp only [List.getElem?_toArray, List.getElem?_cons_zero, List.getElem?_cons_succ, Option.some.injEq] at ho
            subst ho
            refine ⟨rfl, ?_⟩
            have h11 : a.tmps[11]?.getD undef = .pointer (some ⟨b9, 0, none⟩) := hF.base 11 (by simp) rfl
            exact owp_value (.pointer (some ⟨b9, 1, none⟩)) (w' := W) (by clear hdep; go_simp) ⟨by simp [hl], hsz, by rw [iffS_ne (by decide), iffS_ne (by decide)]; exact hT, hO, hF.put 7 94 _ (by rw [hsz]; decide) (by simp) (by simp) (by simp)⟩
          | 8, ho, hn =>
            simp only [List.getElem?_toArray, List.getElem?_cons_zero, List.getElem?_cons_succ, Option.some.injEq] at ho
            subst ho
            refine ⟨rfl, ?_⟩
            have h94 : a.tmps[94]?.getD undef = .pointer (some ⟨b9, 1, none⟩) := hF.slot (i := 7) (s := 94) (v := .pointer (some ⟨b9, 1, none⟩)) (by simp) (hdep ⟨7, .data⟩ (by simp) rfl)
            have hld : W.cell? ⟨b9, 1, none⟩ = some (.int .i64 li) := blk_cell hO 1
            exact owp_value (.int .i64 li) (w' := W) (by clear hdep; go_simp) ⟨by simp [hl], hsz, by rw [iffS_ne (by decide), iffS_ne (by decide)]; exact hT, hO, hF.put 8 95 _ (by rw [hsz]; decide) (by simp) (by simp) (by simp)⟩
          | 9, ho, hn =>
            simp only [List.getElem?_toArray, List.getElem?_cons_zero, List.getElem?_cons_succ, Option.some.injEq] at ho
            subst ho
            refine ⟨rfl, ?_⟩
            have h11 : a.tmps[11]?.getD undef = .pointer (some ⟨b9, 0, none⟩) := hF.base 11 (by simp) rfl
            exact owp_value (.pointer (some ⟨b9, 2, none⟩)) (w' := W) (by clear hdep; go_simp) ⟨by simp [hl], hsz, by rw [iffS_ne (by decide), iffS_ne (by decide)]; exact hT, hO, hF.put 9 96 _ (by rw [hsz]; decide) (by simp) (by simp) (by simp)⟩
          | 10, ho, hn =>
            simp only [List.getElem?_toArray, List.getElem?_cons_zero, List.getElem?_cons_succ, Option.some.injEq] at ho
            subst ho
            refine ⟨rfl, ?_⟩
            have h96 : a.tmps[96]?.getD undef = .pointer (some ⟨b9, 2, none⟩) := hF.slot (i := 9) (s := 96) (v := .pointer (some ⟨b9, 2, none⟩)) (by simp) (hdep ⟨9, .data⟩ (by simp) rfl)
            have hld : W.cell? ⟨b9, 2, none⟩ = some (.int .i64 ci) := blk_cell hO 2
            exact owp_value (.int .i64 ci) (w' := W) (by clear hdep; go_simp) ⟨by simp [hl], hsz, by rw [iffS_ne (by decide), iffS_ne (by decide)]; exact hT, hO, hF.put 10 97 _ (by rw [hsz]; decide) (by simp) (by simp) (by simp)⟩
          | 11, ho, hn =>
            simp only [List.getElem?_toArray, List.getElem?_cons_zero, List.getElem?_cons_succ, Option.some.injEq] at ho
            subst ho
            refine ⟨rfl, ?_⟩
            have h93 : a.tmps[93]?.getD undef = .pointer (some ⟨q, 0, none⟩) := hF.slot (i := 6) (s := 93) (v := .pointer (some ⟨q, 0, none⟩)) (by simp) (hdep ⟨6, .data⟩ (by simp) rfl)
            have h95 : a.tmps[95]?.getD undef = .int .i64 li := hF.slot (i := 8) (s := 95) (v := .int .i64 li) (by simp) (hdep ⟨8, .data⟩ (by simp) rfl)
            have h97 : a.tmps[97]?.getD undef = .int .i64 ci := hF.slot (i := 10) (s := 97) (v := .int .i64 ci) (by simp) (hdep ⟨10, .data⟩ (by simp) rfl)
            rw [getD_no hn] at hT
            have hTs : TwoD w (fun k => k = b9) W p q (iffS (l.getD 5 false) (s.push li ci) s) s := hT
            refine owp_call (fn := 10) (args := #[.pointer (some ⟨q, 0, none⟩), .int .i64 li, .int .i64 ci]) (by clear hdep; go_simp) ?_
            refine (hTs.rpush HS.out li ci).mono ?_
            rintro e w' ⟨rfl, ht, hx⟩
            exact ⟨_, rfl, by simp [hl], hsz, by rw [iffS_at hn, iffS_ne (show 5 ≠ 11 by decide)]; exact ht, (hx b9 rfl).trans hO, hF.put 11 98 _ (by rw [hsz]; decide) (by simp) (by simp) (by simp)⟩
          | 12, ho, hn =>
            simp only [List.getElem?_toArray, List.getElem?_cons_zero, List.getElem?_cons_succ, Option.some.injEq] at ho
            subst ho
            refine ⟨rfl, ?_⟩
            have h92 : a.tmps[92]?.getD undef = .int .i64 (s.pushE li ci) := hF.slot (i := 5) (s := 92) (v := .int .i64 (s.pushE li ci)) (by simp) (hdep ⟨5, .data⟩ (by simp) rfl)
            have h98 : a.tmps[98]?.getD undef = .int .i64 (s.pushE li ci) := hF.slot (i := 11) (s := 98) (v := .int .i64 (s.pushE li ci)) (by simp) (hdep ⟨11, .data⟩ (by simp) rfl)
            exact owp_value (.bool true) (w' := W) (by clear hdep; go_simp) ⟨by simp [hl], hsz, by rw [iffS_ne (by decide), iffS_ne (by decide)]; exact hT, hO, hF.put 12 99 _ (by rw [hsz]; decide) (by simp) (by simp) (by simp)⟩
          | 13, ho, hn =>
            simp only [List.getElem?_toArray, List.getElem?_cons_zero, List.getElem?_cons_succ, Option.some.injEq] at ho
            subst ho
            refine ⟨rfl, ?_⟩
            have h99 : a.tmps[99]?.getD undef = .bool true := hF.slot (i := 12) (s := 99) (v := .bool true) (by simp) (hdep ⟨12, .data⟩ (by simp) rfl)
            exact owp_value (.bool true) (w' := W) (by clear hdep; go_simp) ⟨by simp [hl], hsz, by rw [iffS_ne (by decide), iffS_ne (by decide)]; exact hT, hO, hF.put 13 12 _ (by rw [hsz]; decide) (by simp) (by simp) (by simp)⟩
          | i5 + 14, ho, hn => simp at ho
        · intro l a W1 hI hall
          obtain ⟨hl, hsz, hT, hO, hF⟩ := hI
          have hall : ∀ i, i < 14 → l.getD i false = true := hall
          have ha := hF.all (by simp only [List.mem_cons, List.not_mem_nil, or_false]; rintro x (rfl | rfl | rfl | rfl | rfl | rfl | rfl | rfl | rfl | rfl | rfl | rfl | rfl | rfl) <;> exact hall _ (by dsimp only; decide)) (by simp) (by rw [hsz]; simp)
          subst ha
          rw [hall 5 (by decide), hall 11 (by decide)] at hT
          have HT2 : Hid (TwoD w (fun k => k = b9) W1 p q (s.push li ci) (s.push li ci)) := Lib.hid hT
          have HO2 := Lib.hid hO
          clear hF hall hl hsz hT hO HT1 HO1
          refine hKc _ _ ?_
          simp only [setAll, List.setIfInBounds_toArray, List.set_cons_succ, List.set_cons_zero]
          go_wp2_with (first
            | (go_at_call 18
               refine (same_any (HS.out.push li ci) HT2.out).mono ?_
               rintro e vz ⟨rfl, ht, hx⟩
               have HTz := Lib.hid (ht.less (Y := fun _ => False) fun _ h => h.elim)
               clear ht hx))
          go_roundw
          case rel => exact ⟨k + 1, p, q, s.push li ci, by omega, rfl, rfl, by go_num, (HS.out.push li ci), HTz.out⟩
          case measure => simp [intOf]; omega
      by_cases c2 : κ = 2
      · subst c2
        have e0 : (0 : Int) = 0 := rfl
        clear e0
        obtain ⟨pa_, pb_, hpe⟩ := popE_eq s li
        have HPE := Lib.hid hpe
        have haa : (pa_ == pa_) = true := by simp
        have hbb : ∀ W, (binOp .eql 4 (.bool pb_) (.bool pb_)).run Try.prog W = .ok (.bool true) W := fun W => by cases pb_ <;> kernel_rfl
        clear hpe
        have y1 : v1.cell? ⟨b9, 1, none⟩ = some (.int .i64 li) := blk_cell HO1.out 1
        have y2 : v1.cell? ⟨b9, 2, none⟩ = some (.int .i64 ci) := blk_cell HO1.out 2
        have HC1 := Lib.hid (HT1.out.pop HS.out li)
        rw [HPE.out] at HC1
        go_upto_region 18 with (first
          | (go_at_call 11
             refine HC1.out.mono ?_
             rintro e v2 ⟨rfl, ht, hx⟩
             have HT2 := Lib.hid ht
             have HO2 : Hid (v2.heap[b9]? = some (.cells #[.int .i64 2, .int .i64 li, .int .i64 ci] 31 (0, 0))) := Lib.hid ((hx b9 rfl).trans HO1.out)
             clear ht hx y1 y2))
        clear HT1 HO1 HC1
        have y1 : v2.cell? ⟨b9, 1, none⟩ = some (.int .i64 li) := blk_cell HO2.out 1
        have y2 : v2.cell? ⟨b9, 2, none⟩ = some (.int .i64 ci) := blk_cell HO2.out 2
        have HC2 := Lib.hid (HT2.out.rpop HS.out li)
        rw [HPE.out] at HC2
        go_upto_region 19 with (first
          | (go_at_call 12
             refine HC2.out.mono ?_
             rintro e v3 ⟨rfl, ht, hx⟩
             have HT3 := Lib.hid ht
             clear ht hx y1 y2))
        clear HT2 HO2 HC2
        go_wp2_with (first
          | (go_at_call 18
             refine (same_any (HS.out.pop li) HT3.out).mono ?_
             rintro e vz ⟨rfl, ht, hx⟩
             have HTz := Lib.hid (ht.less (Y := fun _ => False) fun _ h => h.elim)
             clear ht hx))
        go_roundw
        case rel => exact ⟨k + 1, p, q, s.pop li, by omega, rfl, rfl, by go_num, (HS.out.pop li), HTz.out⟩
        case measure => simp [intOf]; omega
      by_cases c3 : κ = 3
      · subst c3
        have e0 : (0 : Int) = 0 := rfl
        clear e0
        have hEE : (s.remE ci == s.remE ci) = true := by simp
        go_upto_region 21 with fail
        rename_i Kc hKc
        refine wp_region_invG (fun a0 l a W => l.size = 10 ∧ a0.tmps.size = 179 ∧ TwoD w (fun k => k = b9) W p q (iffS (l.getD 3 false) (s.rem ci) s) (iffS (l.getD 7 false) (s.rem ci) s) ∧ W.heap[b9]? = some (.cells #[.int .i64 3, .int .i64 li, .int .i64 ci] 31 (0, 0)) ∧ FrU a0 ([(0, 126, .pointer (some ⟨p, 0, none⟩)), (1, 127, .pointer (some ⟨b9, 2, none⟩)), (2, 128, .int .i64 ci), (3, 129, .int .i64 (s.remE ci)), (4, 130, .pointer (some ⟨q, 0, none⟩)), (5, 131, .pointer (some ⟨b9, 2, none⟩)), (6, 132, .int .i64 ci), (7, 133, .int .i64 (s.remE ci)), (8, 134, .bool true), (9, 12, .bool true)] : List (Nat × Nat × Value)) l a) ?_ ?_ ?_ ?_ ?_ ?_
        · kernel_rfl
        · exact fun _ _ _ h => h.1
        · kernel_rfl
        · exact ⟨by simp, rfl, by rw [getD_none, getD_none]; exact HT1.out.step (Below.refl _ _).drew, HO1.out, FrU.start _ _ _⟩
        · intro l a W i5 o hI ho hn hdep
          obtain ⟨hl, hsz, hT, hO, hF⟩ := hI
          match i5, ho, hn with
          | 0, ho, hn =>
            simp only [List.getElem?_toArray, List.getElem?_cons_zero, Option.some.injEq] at ho
            subst ho
            refine ⟨rfl, ?_⟩
            have h7 : a.tmps[7]?.getD undef = .pointer (some ⟨p, 0, none⟩) := hF.base 7 (by simp) rfl
            exact owp_value (.pointer (some ⟨p, 0, none⟩)) (w' := W) (by clear hdep; go_simp) ⟨by simp [hl], hsz, by rw [iffS_ne (by decide), iffS_ne (by decide)]; exact hT, hO, hF.put 0 126 _ (by rw [hsz]; decide) (by simp) (by simp) (by simp)⟩
          | 1, ho, hn =>
            simp only [List.getElem?_toArray, List.getElem?_cons_zero, List.getElem?_cons_succ, Option.some.injEq] at ho
            subst ho
            refine ⟨rfl, ?_⟩
            have h11 : a.tmps[11]?.getD undef = .pointer (some ⟨b9, 0, none⟩) := hF.base 11 (by simp) rfl
            exact owp_value (.pointer (some ⟨b9, 2, none⟩)) (w' := W) (by clear hdep; go_simp) ⟨by simp [hl], hsz, by rw [iffS_ne (by decide), iffS_ne (by decide)]; exact hT, hO, hF.put 1 127 _ (by rw [hsz]; decide) (by simp) (by simp) (by simp)⟩
          | 2, ho, hn =>
            simp only [List.getElem?_toArray, List.getElem?_cons_zero, List.getElem?_cons_succ, Option.some.injEq] at ho
            subst ho
            refine ⟨rfl, ?_⟩
            have h127 : a.tmps[127]?.getD undef = .pointer (some ⟨b9, 2, none⟩) := hF.slot (i := 1) (s := 127) (v := .pointer (some ⟨b9, 2, none⟩)) (by simp) (hdep ⟨1, .data⟩ (by simp) rfl)
            have hld : W.cell? ⟨b9, 2, none⟩ = some (.int .i64 ci) := blk_cell hO 2
            exact owp_value (.int .i64 ci) (w' := W) (by clear hdep; go_simp) ⟨by simp [hl], hsz, by rw [iffS_ne (by decide), iffS_ne (by decide)]; exact hT, hO, hF.put 2 128 _ (by rw [hsz]; decide) (by simp) (by simp) (by simp)⟩
          | 3, ho, hn =>
            simp only [List.getElem?_toArray, List.getElem?_cons_zero, List.getElem?_cons_succ, Option.some.injEq] at ho
            subst ho
            refine ⟨rfl, ?_⟩
            have h126 : a.tmps[126]?.getD undef = .pointer (some ⟨p, 0, none⟩) := hF.slot (i := 0) (s := 126) (v := .pointer (some ⟨p, 0, none⟩)) (by simp) (hdep ⟨0, .data⟩ (by simp) rfl)
            have h128 : a.tmps[128]?.getD undef = .int .i64 ci := hF.slot (i := 2) (s := 128) (v := .int .i64 ci) (by simp) (hdep ⟨2, .data⟩ (by simp) rfl)
            rw [getD_no hn] at hT
            have hTs : TwoD w (fun k => k = b9) W p q s (iffS (l.getD 7 false) (s.rem ci) s) := hT
            refine owp_call (fn := 13) (args := #[.pointer (some ⟨p, 0, none⟩), .int .i64 ci]) (by clear hdep; go_simp) ?_
            refine (hTs.rem HS.out ci).mono ?_
            rintro e w' ⟨rfl, ht, hx⟩
            exact ⟨_, rfl, by simp [hl], hsz, by rw [iffS_at hn, iffS_ne (show 7 ≠ 3 by decide)]; exact ht, (hx b9 rfl).trans hO, hF.put 3 129 _ (by rw [hsz]; decide) (by simp) (by simp) (by simp)⟩
          | 4, ho, hn =>
            simp only [List.getElem?_toArray, List.getElem?_cons_zero, List.getElem?_cons_succ, Option.some.injEq] at ho
            subst ho
            refine ⟨rfl, ?_⟩
            have h9 : a.tmps[9]?.getD undef = .pointer (some ⟨q, 0, none⟩) := hF.base 9 (by simp) rfl
            exact owp_value (.pointer (some ⟨q, 0, none⟩)) (w' := W) (by clear hdep; go_simp) ⟨by simp [hl], hsz, by rw [iffS_ne (by decide), iffS_ne (by decide)]; exact hT, hO, hF.put 4 130 _ (by rw [hsz]; decide) (by simp) (by simp) (by simp)⟩
          | 5, ho, hn =>
            simp only [List.getElem?_toArray, List.getElem?_cons_zero, List.getElem?_cons_succ, Option.some.injEq] at ho
            subst ho
            refine ⟨rfl, ?_⟩
            have h11 : a.tmps[11]?.getD undef = .pointer (some ⟨b9, 0, none⟩) := hF.base 11 (by simp) rfl
            exact owp_value (.pointer (some ⟨b9, 2, none⟩)) (w' := W) (by clear hdep; go_simp) ⟨by simp [hl], hsz, by rw [iffS_ne (by decide), iffS_ne (by decide)]; exact hT, hO, hF.put 5 131 _ (by rw [hsz]; decide) (by simp) (by simp) (by simp)⟩
          | 6, ho, hn =>
            simp only [List.getElem?_toArray, List.getElem?_cons_zero, List.getElem?_cons_succ, Option.some.injEq] at ho
            subst ho
            refine ⟨rfl, ?_⟩
            have h131 : a.tmps[131]?.getD undef = .pointer (some ⟨b9, 2, none⟩) := hF.slot (i := 5) (s := 131) (v := .pointer (some ⟨b9, 2, none⟩)) (by simp) (hdep ⟨5, .data⟩ (by simp) rfl)
            have hld : W.cell? ⟨b9, 2, none⟩ = some (.int .i64 ci) := blk_cell hO 2
            exact owp_value (.int .i64 ci) (w' := W) (by clear hdep; go_simp) ⟨by simp [hl], hsz, by rw [iffS_ne (by decide), iffS_ne (by decide)]; exact hT, hO, hF.put 6 132 _ (by rw [hsz]; decide) (by simp) (by simp) (by simp)⟩
          | 7, ho, hn =>
            simp only [List.getElem?_toArray, List.getElem?_cons_zero, List.getElem?_cons_succ, Option.some.injEq] at ho
            subst ho
            refine ⟨rfl, ?_⟩
            have h130 : a.tmps[130]?.getD undef = .pointer (some ⟨q, 0, none⟩) := hF.slot (i := 4) (s := 130) (v := .pointer (some ⟨q, 0, none⟩)) (by simp) (hdep ⟨4, .data⟩ (by simp) rfl)
            have h132 : a.tmps[132]?.getD undef = .int .i64 ci := hF.slot (i := 6) (s := 132) (v := .int .i64 ci) (by simp) (hdep ⟨6, .data⟩ (by simp) rfl)
            rw [getD_no hn] at hT
            have hTs : TwoD w (fun k => k = b9) W p q (iffS (l.getD 3 false) (s.rem ci) s) s := hT
            refine owp_call (fn := 14) (args := #[.pointer (some ⟨q, 0, none⟩), .int .i64 ci]) (by clear hdep; go_simp) ?_
            refine (hTs.rrem HS.out ci).mono ?_
            rintro e w' ⟨rfl, ht, hx⟩
            exact ⟨_, rfl, by simp [hl], hsz, by rw [iffS_at hn, iffS_ne (show 3 ≠ 7 by decide)]; exact ht, (hx b9 rfl).trans hO, hF.put 7 133 _ (by rw [hsz]; decide) (by simp) (by simp) (by simp)⟩
          | 8, ho, hn =>
            simp only [List.getElem?_toArray, List.getElem?_cons_zero, List.getElem?_cons_succ, Option.some.injEq] at ho
            subst ho
            refine ⟨rfl, ?_⟩
            have h129 : a.tmps[129]?.getD undef = .int .i64 (s.remE ci) := hF.slot (i := 3) (s := 129) (v := .int .i64 (s.remE ci)) (by simp) (hdep ⟨3, .data⟩ (by simp) rfl)
            have h133 : a.tmps[133]?.getD undef = .int .i64 (s.remE ci) := hF.slot (i := 7) (s := 133) (v := .int .i64 (s.remE ci)) (by simp) (hdep ⟨7, .data⟩ (by simp) rfl)
            exact owp_value (.bool true) (w' := W) (by clear hdep; go_simp) ⟨by simp [hl], hsz, by rw [iffS_ne (by decide), iffS_ne (by decide)]; exact hT, hO, hF.put 8 134 _ (by rw [hsz]; decide) (by simp) (by simp) (by simp)⟩
          | 9, ho, hn =>
            simp only [List.getElem?_toArray, List.getElem?_cons_zero, List.getElem?_cons_succ, Option.some.injEq] at ho
            subst ho
            refine ⟨rfl, ?_⟩
            have h134 : a.tmps[134]?.getD undef = .bool true := hF.slot (i := 8) (s := 134) (v := .bool true) (by simp) (hdep ⟨8, .data⟩ (by simp) rfl)
            exact owp_value (.bool true) (w' := W) (by clear hdep; go_simp) ⟨by simp [hl], hsz, by rw [iffS_ne (by decide), iffS_ne (by decide)]; exact hT, hO, hF.put 9 12 _ (by rw [hsz]; decide) (by simp) (by simp) (by simp)⟩
          | i5 + 10, ho, hn => simp at ho
        · intro l a W1 hI hall
          obtain ⟨hl, hsz, hT, hO, hF⟩ := hI
          have hall : ∀ i, i < 10 → l.getD i false = true := hall
          have ha := hF.all (by simp only [List.mem_cons, List.not_mem_nil, or_false]; rintro x (rfl | rfl | rfl | rfl | rfl | rfl | rfl | rfl | rfl | rfl) <;> exact hall _ (by dsimp only; decide)) (by simp) (by rw [hsz]; simp)
          subst ha
          rw [hall 3 (by decide), hall 7 (by decide)] at hT
          have HT2 : Hid (TwoD w (fun k => k = b9) W1 p q (s.rem ci) (s.rem ci)) := Lib.hid hT
          have HO2 := Lib.hid hO
          clear hF hall hl hsz hT hO HT1 HO1
          refine hKc _ _ ?_
          simp only [setAll, List.setIfInBounds_toArray, List.set_cons_succ, List.set_cons_zero]
          go_wp2_with (first
            | (go_at_call 18
               refine (same_any (HS.out.rem ci) HT2.out).mono ?_
               rintro e vz ⟨rfl, ht, hx⟩
               have HTz := Lib.hid (ht.less (Y := fun _ => False) fun _ h => h.elim)
               clear ht hx))
          go_roundw
          case rel => exact ⟨k + 1, p, q, s.rem ci, by omega, rfl, rfl, by go_num, (HS.out.rem ci), HTz.out⟩
          case measure => simp [intOf]; omega
      by_cases c4 : κ = 4
      · subst c4
        have e0 : (0 : Int) = 0 := rfl
        clear e0
        have y1 : v1.cell? ⟨b9, 1, none⟩ = some (.int .i64 li) := blk_cell HO1.out 1
        have y2 : v1.cell? ⟨b9, 2, none⟩ = some (.int .i64 ci) := blk_cell HO1.out 2
        go_upto_region 32 with (first
          | (go_at_call 15
             refine (emptied_any HS.out li HT1.out).mono ?_
             rintro e v2 ⟨rfl, ht, hx⟩
             have HT2 := Lib.hid ht
             clear ht hx y1 y2))
        clear HT1 HO1
        go_wp2_with (first
          | (go_at_call 18
             refine (same_any (HS.out.emp li) HT2.out).mono ?_
             rintro e vz ⟨rfl, ht, hx⟩
             have HTz := Lib.hid (ht.less (Y := fun _ => False) fun _ h => h.elim)
             clear ht hx))
        go_roundw
        case rel => exact ⟨k + 1, p, q, s.emp li, by omega, rfl, rfl, by go_num, (HS.out.emp li), HTz.out⟩
        case measure => simp [intOf]; omega
      by_cases c5 : κ = 5
      · subst c5
        have e0 : (0 : Int) = 0 := rfl
        clear e0
        go_upto_region 26 with (first
          | (go_at_call 16
             refine (HT1.out.copy HS.out).mono ?_
             rintro e v2 ⟨b, rfl, ht, hx⟩
             have HT2 := Lib.hid ht
             have HO2 : Hid (v2.heap[b9]? = some (.cells #[.int .i64 5, .int .i64 li, .int .i64 ci] 31 (0, 0))) := Lib.hid ((hx b9 rfl).trans HO1.out)
             clear ht hx))
        clear HT1 HO1
        have y1 : v2.cell? ⟨b9, 1, none⟩ = some (.int .i64 li) := blk_cell HO2.out 1
        have y2 : v2.cell? ⟨b9, 2, none⟩ = some (.int .i64 ci) := blk_cell HO2.out 2
        go_upto_region 27 with (first
          | (go_at_call 9
             refine (HT2.out.push HS.out li ci).mono ?_
             rintro e v3 ⟨rfl, ht, hx⟩
             have HT3 := Lib.hid ht.drop
             clear ht hx y1 y2))
        clear HT2 HO2
        go_upto_region 32 with (first
          | (go_at_call 17
             refine HT3.out.rcopy.mono ?_
             rintro e v4 ⟨q2, rfl, ht, hx⟩
             have HT4 := Lib.hid ht
             clear ht hx))
        clear HT3
        go_wp2_with (first
          | (go_at_call 18
             refine (same_any HS.out HT4.out).mono ?_
             rintro e vz ⟨rfl, ht, hx⟩
             have HTz := Lib.hid (ht.less (Y := fun _ => False) fun _ h => h.elim)
             clear ht hx))
        go_roundw
        case rel => exact ⟨k + 1, b, q2, s, by omega, rfl, rfl, by go_num, HS.out, HTz.out⟩
        case measure => simp [intOf]; omega
      by_cases c6 : κ = 6
      · subst c6
        have e0 : (0 : Int) = 0 := rfl
        clear e0
        go_upto_region 30 with (first
          | (go_at_call 16
             refine (HT1.out.copy HS.out).mono ?_
             rintro e v2 ⟨b, rfl, ht, hx⟩
             have HT2 := Lib.hid ht.symm
             have HO2 : Hid (v2.heap[b9]? = some (.cells #[.int .i64 6, .int .i64 li, .int .i64 ci] 31 (0, 0))) := Lib.hid ((hx b9 rfl).trans HO1.out)
             clear ht hx))
        clear HT1 HO1
        have y1 : v2.cell? ⟨b9, 1, none⟩ = some (.int .i64 li) := blk_cell HO2.out 1
        have y2 : v2.cell? ⟨b9, 2, none⟩ = some (.int .i64 ci) := blk_cell HO2.out 2
        go_upto_region 31 with (first
          | (go_at_call 9
             refine (HT2.out.push HS.out li ci).mono ?_
             rintro e v3 ⟨rfl, ht, hx⟩
             have HT3 := Lib.hid ht
             have HO3 : Hid (v3.heap[b9]? = some (.cells #[.int .i64 6, .int .i64 li, .int .i64 ci] 31 (0, 0))) := Lib.hid ((hx b9 rfl).trans HO2.out)
             clear ht hx y1 y2))
        clear HT2 HO2
        have y1 : v3.cell? ⟨b9, 1, none⟩ = some (.int .i64 li) := blk_cell HO3.out 1
        have y2 : v3.cell? ⟨b9, 2, none⟩ = some (.int .i64 ci) := blk_cell HO3.out 2
        go_upto_region 32 with (first
          | (go_at_call 11
             refine (HT3.out.pop (HS.out.push li ci) li).mono ?_
             rintro e v4 ⟨rfl, ht, hx⟩
             have HT4 := Lib.hid ht.drop
             clear ht hx y1 y2))
        clear HT3 HO3
        go_wp2_with (first
          | (go_at_call 18
             refine (same_any HS.out HT4.out).mono ?_
             rintro e vz ⟨rfl, ht, hx⟩
             have HTz := Lib.hid (ht.less (Y := fun _ => False) fun _ h => h.elim)
             clear ht hx))
        go_roundw
        case rel => exact ⟨k + 1, p, q, s, by omega, rfl, rfl, by go_num, HS.out, HTz.out⟩
        case measure => simp [intOf]; omega
      have c1 : (κ == 1) = false := by simpa using c1
      have c2 : (κ == 2) = false := by simpa using c2
      have c3 : (κ == 3) = false := by simpa using c3
      have c4 : (κ == 4) = false := by simpa using c4
      have c5 : (κ == 5) = false := by simpa using c5
      have c6 : (κ == 6) = false := by simpa using c6
      go_upto_region 32 with fail
      go_wp2_with (first
        | (go_at_call 18
           refine (same_any HS.out HT1.out).mono ?_
           rintro e vz ⟨rfl, ht, hx⟩
           have HTz := Lib.hid (ht.less (Y := fun _ => False) fun _ h => h.elim)
           clear ht hx))
      go_roundw
      case rel => exact ⟨k + 1, p, q, s, by omega, rfl, rfl, by go_num, HS.out, HTz.out⟩
      case measure => simp [intOf]; omega
    · obtain rfl : k = m := by omega
      have hkm' : ¬ (k : Int) < (k : Int) := by omega
      go_wp2_with (first
        | (go_at_call 6
           refine (known_any wr).mono ?_
           rintro e uz ⟨rfl, hb⟩))
      go_ret
      exact ⟨rfl, HTr.out.below.trans (hb.mono HTr.out.below.size)⟩
end Go.Proofs.Ythlnhkkjpjbmeaa
