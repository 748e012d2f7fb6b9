import Derived.Test.YtlchegibfopglaaK17
/- The document's answers for layer 3: Options. -/
namespace Go.Proofs.Ytlchegibfopglaa
set_option maxRecDepth 100000
open Go.RowKit
theorem optE_none {f : Nat → Int} {n : Nat} (h1 : n ≤ 40) (h2 : n % 4 = 0) (h : optK f n 0 = none) : optE f n = 5 := by
  unfold optE
  rw [if_neg (by omega), h]
theorem optE_some {f : Nat → Int} {n : Nat} {ks : List Int} (h1 : n ≤ 40) (h2 : n % 4 = 0) (h : optK f n 0 = some ks) : (ks.any route = true → optE f n = 12) ∧ (ks.any route = false → optE f n = 0) := by
  unfold optE
  rw [if_neg (by omega), h]
  constructor
  · intro q
    show (if ks.any route = true then (12 : Int) else 0) = 12
    rw [if_pos q]
  · intro q
    show (if ks.any route = true then (12 : Int) else 0) = 0
    rw [if_neg (by rw [q]; decide)]
theorem kinds_cat (ks : List Int) (x : Int) (p : Nat) (hp : p < ks.length + 1) : (ks ++ [x]).getD p 0 = cat ks.length (fun k => ks.getD k 0) (fun _ => x) p := by
  unfold cat
  by_cases h : p < ks.length
  · rw [if_pos h]
    simp [List.getD, List.getElem?_append_left h]
  · have e : p = ks.length := by omega
    subst e
    rw [if_neg h]
    simp [List.getD]
theorem kinds_step {f : Nat → Int} {n a a' : Nat} {ks : List Int} (h : (optK f n a).map (ks ++ ·) = optK f n 0) (hs : optK f n a = (optK f n a').map (f a :: ·)) : (optK f n a').map ((ks ++ [f a]) ++ ·) = optK f n 0 := by
  rw [← h, hs, Option.map_map]
  congr 1
  funext l
  simp
set_option maxHeartbeats 400000 in
theorem roptions_long (A : Option Addr) (n c : Nat) (f : Nat → Int) (hn : 40 < n) (hn' : n ≤ 4611686018427387904) (w : World) : Calls Try.prog 48 #[.slice A n c] w fun e w' => e = .returned (.int .i64 (optE f n)) ∧ Below w.heap.size w w' := by
  have e : optE f n = 5 := by unfold optE; rw [if_pos (.inl hn)]
  rw [e]
  go_enter Try.func48, Try.ntmps48
  go_wp2
  go_ret
  exact ⟨rfl, Below.refl _ _⟩
set_option maxHeartbeats 400000 in
theorem roptions_odd (A : Option Addr) (n c : Nat) (f : Nat → Int) (hn : n ≤ 40) (hn' : n % 4 ≠ 0) (w : World) : Calls Try.prog 48 #[.slice A n c] w fun e w' => e = .returned (.int .i64 (optE f n)) ∧ Below w.heap.size w w' := by
  have e : optE f n = 5 := by unfold optE; rw [if_pos (.inr hn')]
  have h4 : ((n : Int)).tmod 4 = ((n % 4 : Nat) : Int) := by rw [Int.tmod_eq_emod_of_nonneg (by omega)]; omega
  have h5 : (0 : Int) < ((n % 4 : Nat) : Int) := by omega
  rw [e]
  go_enter Try.func48, Try.ntmps48
  go_wp2
  go_ret
  exact ⟨rfl, Below.refl _ _⟩
set_option maxRecDepth 100000 in
set_option maxHeartbeats 2000000 in
theorem roptions_walk (A : Option Addr) (n c : Nat) (f : Nat → Int) (hf : Byt f) (hn40 : n ≤ 40) (hn4 : n % 4 = 0) (w : World) (hr : Rd w w.heap.size A n f) : Calls Try.prog 48 #[.slice A n c] w fun e w' => e = .returned (.int .i64 (optE f n)) ∧ Below w.heap.size w w' := by
  obtain ⟨i0, hi0, hz0, hz1, hz2⟩ := info_parts Try.info5
  have HI0 := Lib.hid hi0
  have HZ0 := Lib.hid hz0
  have HZ1 := Lib.hid hz1
  have HZ2 := Lib.hid hz2
  have HF := Lib.hid hf
  have HR := Lib.hid hr
  clear hi0 hz0 hz1 hz2 hf hr
  have h4 : ((n : Int)).tmod 4 = 0 := by rw [Int.tmod_eq_emod_of_nonneg (by omega)]; omega
  obtain ⟨R, hR⟩ : ∃ R, R = optE f n := ⟨_, rfl⟩
  rw [← hR]
  have HRE := Lib.hid hR
  clear hR
  go_enter Try.func48, Try.ntmps48
  go_wp2
  clear h4
  go_loopw [3, 4] (fun s i wr => ∃ (a : Nat) (ks : List Int) (K : Option Addr) (ck : Nat), a ≤ n ∧ ks.length ≤ a ∧ i = .int .i64 a ∧ s = .slice K ks.length ck ∧ Own wr w.heap.size 5 K ks.length ck (fun k => ks.getD k 0) ∧ Hid ((optK f n a).map (ks ++ ·) = optK f n 0) ∧ Below w.heap.size w wr) (fun _ i _ => n - (intOf i).toNat)
  case atStart => exact ⟨0, [], none, 0, by omega, Nat.le_refl _, rfl, rfl, Own.nil_ _ _ _ _, Lib.hid (by simp), Below.refl _ _⟩
  case round =>
    obtain ⟨a, ks, K, ck, ha, hkl, rfl, rfl, ho, HK, hbl⟩ := hrel
    have HO := Lib.hid ho
    have HB := Lib.hid hbl
    clear ho hbl
    by_cases hlt : a < n
    · rcases HR.out with h0 | ⟨b, off, rfl, hbb, hcell⟩
      · omega
      · have HC := Lib.hid hcell
        clear hcell
        have hx := (HB.out.cell (p := ⟨b, off + a, none⟩) hbb).trans (HC.out a hlt)
        obtain ⟨p0, q0⟩ := HF.out a
        by_cases h0 : f a = 0
        · rw [h0] at hx
          have HS : Hid (optK f n 0 = some ks) := Lib.hid (by
            have q := HK.out
            rw [optK_end (.inr h0)] at q
            simpa using q.symm)
          obtain ⟨hr12, hr0⟩ := optE_some hn40 hn4 HS.out
          clear HS HK
          go_wp2
          go_loopw [5] (fun i wx => ∃ j : Nat, j ≤ ks.length ∧ i = .int .i64 j ∧ wx = wr ∧ Hid ((ks.take j).any route = false)) (fun i _ => ks.length - (intOf i).toNat)
          case atStart => exact ⟨0, by omega, rfl, rfl, rfl⟩
          case round =>
            obtain ⟨j, hj, rfl, rfl, ht⟩ := hrel
            by_cases hjl : j < ks.length
            · obtain ⟨gk, hKe, _, _, hcell, _⟩ := HO.out.lies (by omega)
              subst hKe
              have hy : wr.cell? ⟨gk, j, none⟩ = some (.int .u8 (ks.getD j 0)) := hcell j hjl
              have hstep : (ks.take (j + 1)).any route = (route (ks.getD j 0)) := by
                rw [List.take_succ_eq_append_getElem hjl, List.any_append, ht.out]
                simp [List.getD, List.getElem?_eq_getElem hjl]
              have hany : route (ks.getD j 0) = true → ks.any route = true := fun h => by
                rw [← hstep] at h
                rw [← List.take_append_drop (j + 1) ks, List.any_append, h]
                rfl
              have HST := Lib.hid hstep
              have HAN := Lib.hid hany
              clear hcell hstep hany
              generalize ks.getD j 0 = y at *
              by_cases h1 : y = 131
              · subst h1
                have hR12 : R = 12 := HRE.out.trans (hr12 (HAN.out (by decide)))
                go_wp2
                go_ret
                exact ⟨by rw [hR12]; rfl, HB.out⟩
              · have h1' : (y == 131) = false := by simpa using h1
                by_cases h2 : y = 137
                · subst h2
                  have hR12 : R = 12 := HRE.out.trans (hr12 (HAN.out (by decide)))
                  go_wp2
                  go_ret
                  exact ⟨by rw [hR12]; rfl, HB.out⟩
                · have h2' : (y == 137) = false := by simpa using h2
                  have hno : route y = false := by simp [route, h1, h2]
                  rw [hno] at HST
                  clear hno
                  go_wp2
                  go_roundw
                  case rel => exact ⟨j + 1, by omega, by go_num, by first | trivial | rfl, HST⟩
                  case measure => simp [intOf]; omega
            · obtain rfl : j = ks.length := by omega
              have hRz : R = 0 := HRE.out.trans (hr0 (by rw [← List.take_length (l := ks)]; exact ht.out))
              go_wp2
              go_ret
              exact ⟨by rw [hRz]; rfl, HB.out⟩
        · have h0' : (f a != 0) = true := by simpa using h0
          by_cases h1 : f a = 1
          · have HK1 : Hid ((optK f n (a + 1)).map ((ks ++ [1]) ++ ·) = optK f n 0) := by
              have q := kinds_step HK.out (by rw [h1]; exact optK_one hlt h1)
              rw [h1] at q
              exact q
            rw [h1] at hx
            go_wp2_with (first
              | (at_builtin
                 refine wpList_append_rd rfl (.tmp 26) (.tmp 31) _ rfl w.heap.size 5 i0 Try.underlying22 HI0.out HZ0.out HZ1.out HZ2.out rfl (HO.out.alloc (.cells #[.int .u8 (1)] 5)) rfl (rd_new1 wr (wr.heap.size + 1) _ rfl (Nat.lt_succ_self _) (1) 5) (by omega) (Nat.le_trans HB.out.size (alloc_le wr _)) ?_
                 intro A3 c3 w3 hown3 hg3 _
                 have HB3 : Hid (Below w.heap.size w w3) := (HB.out.alloc HB.out.size (.cells #[.int .u8 (1)] 5)).grown hg3 (HB.out.alloc HB.out.size (.cells #[.int .u8 (1)] 5)).size (fun j hj => (HO.out.alloc (.cells #[.int .u8 (1)] 5)).at_ j hj)
                 have HO3 : Hid (Own w3 w.heap.size 5 A3 (ks ++ [1]).length c3 (fun k => (ks ++ [1]).getD k 0)) := by
                   have e : (ks ++ [1]).length = ks.length + 1 := by simp
                   rw [e]
                   exact hown3.same fun p hp => kinds_cat ks (1) p hp
                 have hx3 := (HB3.out.cell (p := ⟨b, off + a, none⟩) hbb).trans (HC.out a hlt)
                 have hkl3 : (ks ++ [1]).length ≤ a + 1 := by simp; omega
                 clear hown3 hg3))
            have he3 : (ks ++ [(1 : Int)]).length = ks.length + 1 := by simp
            go_roundw
            case rel => exact ⟨a + 1, ks ++ [1], A3, c3, by omega, hkl3, by go_num, by rw [he3], HO3.out, HK1, HB3.out⟩
            case measure => simp [intOf]; omega
          · have h1' : (f a == 1) = false := by simpa using h1
            have HN0 := Lib.hid h0
            have HN1 := Lib.hid h1
            by_cases h2 : a + 1 = n
            · have i6 : (a : Int) + 1 = (n : Int) := by omega
              clear h0 h1
              go_wp2_with (first
                | (at_builtin
                   refine wpList_append_rd rfl (.tmp 26) (.tmp 31) _ rfl w.heap.size 5 i0 Try.underlying22 HI0.out HZ0.out HZ1.out HZ2.out rfl (HO.out.alloc (.cells #[.int .u8 (f a)] 5)) rfl (rd_new1 wr (wr.heap.size + 1) _ rfl (Nat.lt_succ_self _) (f a) 5) (by omega) (Nat.le_trans HB.out.size (alloc_le wr _)) ?_
                   intro A3 c3 w3 hown3 hg3 _
                   have HB3 : Hid (Below w.heap.size w w3) := (HB.out.alloc HB.out.size (.cells #[.int .u8 (f a)] 5)).grown hg3 (HB.out.alloc HB.out.size (.cells #[.int .u8 (f a)] 5)).size (fun j hj => (HO.out.alloc (.cells #[.int .u8 (f a)] 5)).at_ j hj)
                   have HO3 : Hid (Own w3 w.heap.size 5 A3 (ks ++ [f a]).length c3 (fun k => (ks ++ [f a]).getD k 0)) := by
                     have e : (ks ++ [f a]).length = ks.length + 1 := by simp
                     rw [e]
                     exact hown3.same fun p hp => kinds_cat ks (f a) p hp
                   have hx3 := (HB3.out.cell (p := ⟨b, off + a, none⟩) hbb).trans (HC.out a hlt)
                   skip
                   clear hown3 hg3))
              have hR5 : R = 5 := by
                have q := HK.out
                rw [optK_bad hlt HN0.out HN1.out (.inl h2)] at q
                exact HRE.out.trans (optE_none hn40 hn4 q.symm)
              go_wp2
              go_ret
              exact ⟨by rw [hR5]; rfl, HB3.out⟩
            · have i6 : ¬ (a : Int) + 1 = (n : Int) := by omega
              have i6' : ((a : Int) + 1 == (n : Int)) = false := by simpa using i6
              have i2 : (0 : Int) ≤ (a : Int) + 1 := by omega
              have i3 : (a : Int) + 1 < (n : Int) := by omega
              have i5 : ((a : Int) + 1).toNat = a + 1 := by omega
              obtain ⟨p1, q1⟩ := HF.out (a + 1)
              clear h0 h1
              by_cases h3 : f (a + 1) < 2
              · go_wp2_with (first
                  | (at_builtin
                     refine wpList_append_rd rfl (.tmp 26) (.tmp 31) _ rfl w.heap.size 5 i0 Try.underlying22 HI0.out HZ0.out HZ1.out HZ2.out rfl (HO.out.alloc (.cells #[.int .u8 (f a)] 5)) rfl (rd_new1 wr (wr.heap.size + 1) _ rfl (Nat.lt_succ_self _) (f a) 5) (by omega) (Nat.le_trans HB.out.size (alloc_le wr _)) ?_
                     intro A3 c3 w3 hown3 hg3 _
                     have HB3 : Hid (Below w.heap.size w w3) := (HB.out.alloc HB.out.size (.cells #[.int .u8 (f a)] 5)).grown hg3 (HB.out.alloc HB.out.size (.cells #[.int .u8 (f a)] 5)).size (fun j hj => (HO.out.alloc (.cells #[.int .u8 (f a)] 5)).at_ j hj)
                     have HO3 : Hid (Own w3 w.heap.size 5 A3 (ks ++ [f a]).length c3 (fun k => (ks ++ [f a]).getD k 0)) := by
                       have e : (ks ++ [f a]).length = ks.length + 1 := by simp
                       rw [e]
                       exact hown3.same fun p hp => kinds_cat ks (f a) p hp
                     have hx3 := (HB3.out.cell (p := ⟨b, off + a, none⟩) hbb).trans (HC.out a hlt)
                     have hx4 : w3.cell? ⟨b, off + (a + 1), none⟩ = some (.int .u8 (f (a + 1))) := (HB3.out.cell (p := ⟨b, off + (a + 1), none⟩) hbb).trans (HC.out (a + 1) (by omega))
                     clear hown3 hg3))
                have hR5 : R = 5 := by
                  have q := HK.out
                  rw [optK_bad hlt HN0.out HN1.out (.inr h3)] at q
                  exact HRE.out.trans (optE_none hn40 hn4 q.symm)
                go_wp2
                go_ret
                exact ⟨by rw [hR5]; rfl, HB3.out⟩
              · have h3' : 2 ≤ f (a + 1) := by omega
                by_cases h5 : n < a + (f (a + 1)).toNat
                · have h5' : (n : Int) < (a : Int) + f (a + 1) := by omega
                  go_wp2_with (first
                    | (at_builtin
                       refine wpList_append_rd rfl (.tmp 26) (.tmp 31) _ rfl w.heap.size 5 i0 Try.underlying22 HI0.out HZ0.out HZ1.out HZ2.out rfl (HO.out.alloc (.cells #[.int .u8 (f a)] 5)) rfl (rd_new1 wr (wr.heap.size + 1) _ rfl (Nat.lt_succ_self _) (f a) 5) (by omega) (Nat.le_trans HB.out.size (alloc_le wr _)) ?_
                       intro A3 c3 w3 hown3 hg3 _
                       have HB3 : Hid (Below w.heap.size w w3) := (HB.out.alloc HB.out.size (.cells #[.int .u8 (f a)] 5)).grown hg3 (HB.out.alloc HB.out.size (.cells #[.int .u8 (f a)] 5)).size (fun j hj => (HO.out.alloc (.cells #[.int .u8 (f a)] 5)).at_ j hj)
                       have HO3 : Hid (Own w3 w.heap.size 5 A3 (ks ++ [f a]).length c3 (fun k => (ks ++ [f a]).getD k 0)) := by
                         have e : (ks ++ [f a]).length = ks.length + 1 := by simp
                         rw [e]
                         exact hown3.same fun p hp => kinds_cat ks (f a) p hp
                       have hx3 := (HB3.out.cell (p := ⟨b, off + a, none⟩) hbb).trans (HC.out a hlt)
                       have hx4 : w3.cell? ⟨b, off + (a + 1), none⟩ = some (.int .u8 (f (a + 1))) := (HB3.out.cell (p := ⟨b, off + (a + 1), none⟩) hbb).trans (HC.out (a + 1) (by omega))
                       clear hown3 hg3))
                  have hR5 : R = 5 := by
                    have q := HK.out
                    rw [optK_over hlt HN0.out HN1.out (by omega) h5] at q
                    exact HRE.out.trans (optE_none hn40 hn4 q.symm)
                  go_wp2
                  go_ret
                  exact ⟨by rw [hR5]; rfl, HB3.out⟩
                · have h5' : (a : Int) + f (a + 1) ≤ (n : Int) := by omega
                  have HK1 : Hid ((optK f n (a + (f (a + 1)).toNat)).map ((ks ++ [f a]) ++ ·) = optK f n 0) := kinds_step HK.out (optK_more hlt HN0.out HN1.out (by omega) h5)
                  go_wp2_with (first
                    | (at_builtin
                       refine wpList_append_rd rfl (.tmp 26) (.tmp 31) _ rfl w.heap.size 5 i0 Try.underlying22 HI0.out HZ0.out HZ1.out HZ2.out rfl (HO.out.alloc (.cells #[.int .u8 (f a)] 5)) rfl (rd_new1 wr (wr.heap.size + 1) _ rfl (Nat.lt_succ_self _) (f a) 5) (by omega) (Nat.le_trans HB.out.size (alloc_le wr _)) ?_
                       intro A3 c3 w3 hown3 hg3 _
                       have HB3 : Hid (Below w.heap.size w w3) := (HB.out.alloc HB.out.size (.cells #[.int .u8 (f a)] 5)).grown hg3 (HB.out.alloc HB.out.size (.cells #[.int .u8 (f a)] 5)).size (fun j hj => (HO.out.alloc (.cells #[.int .u8 (f a)] 5)).at_ j hj)
                       have HO3 : Hid (Own w3 w.heap.size 5 A3 (ks ++ [f a]).length c3 (fun k => (ks ++ [f a]).getD k 0)) := by
                         have e : (ks ++ [f a]).length = ks.length + 1 := by simp
                         rw [e]
                         exact hown3.same fun p hp => kinds_cat ks (f a) p hp
                       have hx3 := (HB3.out.cell (p := ⟨b, off + a, none⟩) hbb).trans (HC.out a hlt)
                       have hx4 : w3.cell? ⟨b, off + (a + 1), none⟩ = some (.int .u8 (f (a + 1))) := (HB3.out.cell (p := ⟨b, off + (a + 1), none⟩) hbb).trans (HC.out (a + 1) (by omega))
                       clear hown3 hg3))
                  have he3 : (ks ++ [f a]).length = ks.length + 1 := by simp
                  have hi3 : (a : Int) + f (a + 1) = ((a + (f (a + 1)).toNat : Nat) : Int) := by omega
                  go_roundw
                  case rel => exact ⟨a + (f (a + 1)).toNat, ks ++ [f a], A3, c3, by omega, by simp; omega, by rw [← hi3], by rw [he3], HO3.out, HK1, HB3.out⟩
                  case measure => simp [intOf]; omega
    · obtain rfl : n = a := by omega
      have HS : Hid (optK f n 0 = some ks) := Lib.hid (by
        have q := HK.out
        rw [optK_end (.inl (Nat.le_refl _))] at q
        simpa using q.symm)
      obtain ⟨hr12, hr0⟩ := optE_some hn40 hn4 HS.out
      clear HS HK
      go_wp2
      go_loopw [5] (fun i wx => ∃ j : Nat, j ≤ ks.length ∧ i = .int .i64 j ∧ wx = wr ∧ Hid ((ks.take j).any route = false)) (fun i _ => ks.length - (intOf i).toNat)
      case atStart => exact ⟨0, by omega, rfl, rfl, rfl⟩
      case round =>
        obtain ⟨j, hj, rfl, rfl, ht⟩ := hrel
        by_cases hjl : j < ks.length
        · obtain ⟨gk, hKe, _, _, hcell, _⟩ := HO.out.lies (by omega)
          subst hKe
          have hy : wr.cell? ⟨gk, j, none⟩ = some (.int .u8 (ks.getD j 0)) := hcell j hjl
          have hstep : (ks.take (j + 1)).any route = (route (ks.getD j 0)) := by
            rw [List.take_succ_eq_append_getElem hjl, List.any_append, ht.out]
            simp [List.getD, List.getElem?_eq_getElem hjl]
          have hany : route (ks.getD j 0) = true → ks.any route = true := fun h => by
            rw [← hstep] at h
            rw [← List.take_append_drop (j + 1) ks, List.any_append, h]
            rfl
          have HST := Lib.hid hstep
          have HAN := Lib.hid hany
          clear hcell hstep hany
          generalize ks.getD j 0 = y at *
          by_cases h1 : y = 131
          · subst h1
            have hR12 : R = 12 := HRE.out.trans (hr12 (HAN.out (by decide)))
            go_wp2
            go_ret
            exact ⟨by rw [hR12]; rfl, HB.out⟩
          · have h1' : (y == 131) = false := by simpa using h1
            by_cases h2 : y = 137
            · subst h2
              have hR12 : R = 12 := HRE.out.trans (hr12 (HAN.out (by decide)))
              go_wp2
              go_ret
              exact ⟨by rw [hR12]; rfl, HB.out⟩
            · have h2' : (y == 137) = false := by simpa using h2
              have hno : route y = false := by simp [route, h1, h2]
              rw [hno] at HST
              clear hno
              go_wp2
              go_roundw
              case rel => exact ⟨j + 1, by omega, by go_num, by first | trivial | rfl, HST⟩
              case measure => simp [intOf]; omega
        · obtain rfl : j = ks.length := by omega
          have hRz : R = 0 := HRE.out.trans (hr0 (by rw [← List.take_length (l := ks)]; exact ht.out))
          go_wp2
          go_ret
          exact ⟨by rw [hRz]; rfl, HB.out⟩
theorem roptions_any (A : Option Addr) (n c : Nat) (f : Nat → Int) (hf : Byt f) (hn : n ≤ 4611686018427387904) (w : World) (hr : Rd w w.heap.size A n f) : Calls Try.prog 48 #[.slice A n c] w fun e w' => e = .returned (.int .i64 (optE f n)) ∧ Below w.heap.size w w' := by
  by_cases h1 : 40 < n
  · exact roptions_long A n c f h1 hn w
  · by_cases h2 : n % 4 = 0
    · exact roptions_walk A n c f hf (by omega) h2 w hr
    · exact roptions_odd A n c f (by omega) h2 w
end Go.Proofs.Ytlchegibfopglaa
