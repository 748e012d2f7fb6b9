import Derived.Test.YtlchegibfopglaaK46
/- Layer 7: the law on padding, walked. -/
namespace Go.Proofs.Ytlchegibfopglaa
set_option maxRecDepth 100000
open Go.RowKit
set_option maxHeartbeats 1000000 in
theorem ppad_long (A A' : Option Addr) (n c m c' : Nat) (h : 1500 < n) (w : World) :
    Calls Try.prog 4 #[.slice A n c, .slice A' m c'] w fun e w' => e = .returned (.bool true) ∧ Below w.heap.size w w' := by
  have KN := Lib.hid known_any
  have h' : (n : Int) > 1500 := by omega
  go_enter Try.func4, Try.ntmps4
  go_wp2_with (first
    | (go_at_call 5; refine (KN.out _).mono ?_; rintro e u2 ⟨rfl, hb2⟩))
  go_ret
  exact ⟨rfl, hb2⟩
set_option maxHeartbeats 1000000 in
theorem ppad_wide (A A' : Option Addr) (n c m c' : Nat) (h0 : n ≤ 1500) (h : 100 < m) (w : World) :
    Calls Try.prog 4 #[.slice A n c, .slice A' m c'] w fun e w' => e = .returned (.bool true) ∧ Below w.heap.size w w' := by
  have KN := Lib.hid known_any
  have g1 : ¬ (1500 : Int) < (n : Int) := by omega
  have h' : (m : Int) > 100 := by omega
  go_enter Try.func4, Try.ntmps4
  go_wp2_with (first
    | (go_at_call 5; refine (KN.out _).mono ?_; rintro e u2 ⟨rfl, hb2⟩))
  go_ret
  exact ⟨rfl, hb2⟩
set_option maxHeartbeats 2000000 in
theorem ppad_err (A A' : Option Addr) (n c m c' : Nat) (f : Nat → Int) (hf : Byt f) (hn : n ≤ 1500) (hm : m ≤ 100) (hcap : n ≤ c) (hc9 : c ≤ 9223372036854775807) (hE : pkE f n ≠ 0) (w : World) (hr : Rd w w.heap.size A n f) :
    Calls Try.prog 4 #[.slice A n c, .slice A' m c'] w fun e w' => e = .returned (.bool true) ∧ Below w.heap.size w w' := by
  have KN := Lib.hid known_any
  have HP : Hid (Calls Try.prog 6 #[.slice A n c] w fun e w' => e = .returned (.tuple #[.agg pkz, .int .i64 (pkE f n)]) ∧ Below w.heap.size w w') := Lib.hid (by
    refine (pk_any A n c f hf (by omega) hcap hc9 w hr).mono ?_
    rintro e w' (⟨_, rfl, hb⟩ | ⟨h, _⟩)
    · exact ⟨rfl, hb⟩
    · exact absurd h hE)
  have HSM : Hid (∀ W, Calls Try.prog 8 #[.agg pkz, .agg pkz] W fun e w' => e = .returned (.bool true) ∧ Below W.heap.size W w') := Lib.hid fun W => same_any (fun _ => 0) (fun _ => 0) 0 false 0 (fun _ => 0) (fun _ => 0) 0 0 0 false 0 none none 0 0 (fun _ => 0) W (.inl rfl) (.inl rfl)
  obtain ⟨E, hEE⟩ : ∃ E, E = pkE f n := ⟨_, rfl⟩
  rw [← hEE] at HP hE
  have hne : (E != 0) = true := by simpa using hE
  have g1 : ¬ (1500 : Int) < (n : Int) := by omega
  have g2 : ¬ (100 : Int) < (m : Int) := by omega
  have HM0 := Lib.hid (Mem.nil w)
  clear hEE hE hf hr
  go_enter Try.func4, Try.ntmps4
  go_wp2_with fail
  go_at_call 6
  refine HP.out.mono ?_
  rintro e u2 ⟨rfl, hb⟩
  have HM2 := Lib.hid (HM0.out.step hb)
  clear hb HM0 HP
  have HN : Hid ((u2.alloc (.cells pkz 32)).heap[u2.heap.size]? = some (.cells pkz 32 (0, 0))) := heap_alloc_new u2 _
  go_upto_if 26 with (first
    | (refine wpList_store_row rfl 32 (.tmp 5) (.tmp 23) rfl u2.heap.size pkz rfl rfl 32 pkz HN.out (by kernel_rfl) rfl (pk_one ..) ?_))
  change Code.wp _ _ _ _ ((u2.alloc (.cells pkz 32)).setRow u2.heap.size pkz)
  obtain ⟨q5, hq⟩ : ∃ q, q = u2.heap.size := ⟨_, rfl⟩
  have HM3 : Hid (Mem w ((u2.alloc (.cells pkz 32)).setRow q5 pkz) [(q5, .cells pkz 32 (0, 0))]) := Lib.hid (HM2.out.newrow pkz pkz 32 q5 hq)
  rw [← hq]
  clear hq HN HM2
  generalize (u2.alloc (.cells pkz 32)).setRow q5 pkz = u3 at *
  go_wp2_with (first
    | (refine wpList_load_row rfl 32 (.tmp 5) rfl q5 rfl 32 pkz (0, 0) _ (HM3.out.get 0 rfl) Try.underlying32 rfl (by kernel_rfl) ?_))
  go_at_call 8
  refine (HSM.out u3).mono ?_
  rintro e u4 ⟨rfl, hb⟩
  have HM4 := Lib.hid (HM3.out.step hb)
  clear hb HM3
  go_wp2_with (first
    | (go_at_call 5; refine (KN.out _).mono ?_; rintro e u11 ⟨rfl, hb11⟩))
  go_ret
  exact ⟨rfl, HM4.out.below.trans (hb11.mono HM4.out.below.size)⟩
theorem ethW_same {f g : Nat → Int} (h : ∀ k, k < 14 → g k = f k) : eth g (fun k => g (6 + k)) (w2 g 12) = eth f (fun k => f (6 + k)) (w2 f 12) := by
  have e12 : w2 g 12 = w2 f 12 := w2_same 12 (h 12 (by omega)) (h 13 (by omega))
  unfold eth
  rw [e12, h 0 (by omega), h 1 (by omega), h 2 (by omega), h 3 (by omega), h 4 (by omega), h 5 (by omega)]
  dsimp only
  rw [h (6 + 0) (by omega), h (6 + 1) (by omega), h (6 + 2) (by omega), h (6 + 3) (by omega), h (6 + 4) (by omega), h (6 + 5) (by omega)]
/-- What is told of the same packet, with more behind it, or less. -/
theorem pk_again {f g : Nat → Int} (hf : Byt f) (hg : Byt g) {n n' : Nat} (h : pkE f n = 0) (hn : 14 + otI (pkV f) (pkG f) ≤ n') (hn' : n' ≤ 1600) (hs : ∀ k, k < 14 + otI (pkV f) (pkG f) → g k = f k)
    (A : Option Addr) (c : Nat) (w : World) (h1 : n' ≤ c) (h2 : c ≤ 9223372036854775807) (hr : Rd w w.heap.size A n' g) :
    Calls Try.prog 6 #[.slice A n' c] w fun e w' => ∃ I ic, e = .returned (.tuple #[.agg (pkF f (.slice I (otI (pkV f) (pkG f)) ic)), .int .i64 0]) ∧ InB w' w.heap.size I (otI (pkV f) (pkG f)) (pkG g) ∧ Below w.heap.size w w' := by
  obtain ⟨e0, e1, e2, e3, e4, e5⟩ := pk_same hf hg h hn hn' hs
  have w14 : 20 ≤ otI (pkV f) (pkG f) := (pk_within hf h).2.1
  have e6 := ethW_same (f := f) (g := g) (fun k hk => hs k (by omega))
  refine (pk_any A n' c g hg (by omega) h1 h2 w hr).mono ?_
  rintro e w' (⟨h, _⟩ | ⟨_, g1, ic, N, cN, rfl, _, _, h3, h4, h5⟩)
  · exact absurd e0 h
  · refine ⟨some ⟨g1, 0, none⟩, ic, ?_, .inr ⟨g1, N, cN, rfl, by rw [← e2]; exact h3, h4⟩, h5⟩
    rw [e6, e4, e5, e3, e2]
    rfl
set_option maxHeartbeats 8000000 in
theorem ppad_any (b0 off n c : Nat) (A' : Option Addr) (m c' : Nat) (f fp : Nat → Int) (hf : Byt f) (hfp : Byt fp) (hn : n ≤ 1500) (hm : m ≤ 100) (hcap : n ≤ c) (hc9 : c ≤ 9223372036854775807) (hE : pkE f n = 0) (w : World)
    (hb0 : b0 < w.heap.size) (hcl : ∀ k, k < n → w.cell? ⟨b0, off + k, none⟩ = some (.int .u8 (f k))) (hrp : Rd w w.heap.size A' m fp) :
    Calls Try.prog 4 #[.slice (some ⟨b0, off, none⟩) n c, .slice A' m c'] w fun e w' => e = .returned (.bool true) ∧ Below w.heap.size w w' := by
  obtain ⟨i0, hi0, hz0, hz1, hz2⟩ := info_parts Try.info5
  have HI0 := Lib.hid hi0
  have HZ0 := Lib.hid hz0
  have HZ1 := Lib.hid hz1
  have HZ2 := Lib.hid hz2
  clear hi0 hz0 hz1 hz2
  have KN := Lib.hid known_any
  have hr : Rd w w.heap.size (some ⟨b0, off, none⟩) n f := .inr ⟨b0, off, rfl, hb0, hcl⟩
  have hW := pk_within hf hE
  obtain ⟨a, b, ty, v, pr, s, d, sp, dp, fl, rp, hform⟩ := pkF_form f
  obtain ⟨NI, hNI⟩ : ∃ k, k = otI (pkV f) (pkG f) := ⟨_, rfl⟩
  rw [← hNI] at hW
  have hgB : Byt (cat n f fp) := fun k => by
    have := hf k
    have := hfp (k - n)
    unfold cat
    split <;> omega
  have HR1 : Hid (∀ A c W, n ≤ c → c ≤ 9223372036854775807 → Rd W W.heap.size A n f → Calls Try.prog 6 #[.slice A n c] W fun e w' => ∃ I ic, e = .returned (.tuple #[.agg (pkc a b ty v pr s d sp dp fl rp (.slice I NI ic)), .int .i64 0]) ∧ InB w' W.heap.size I NI (pkG f) ∧ Below W.heap.size W w') := Lib.hid fun A c W h1 h2 h3 => by
    have q := pk_again hf hf hE (by omega) (by omega) (fun _ _ => rfl) A c W h1 h2 h3
    simpa only [hform, ← hNI] using q
  have HR2 : Hid (∀ A c W, n + m ≤ c → c ≤ 9223372036854775807 → Rd W W.heap.size A (n + m) (cat n f fp) → Calls Try.prog 6 #[.slice A (n + m) c] W fun e w' => ∃ I ic, e = .returned (.tuple #[.agg (pkc a b ty v pr s d sp dp fl rp (.slice I NI ic)), .int .i64 0]) ∧ InB w' W.heap.size I NI (pkG (cat n f fp)) ∧ Below W.heap.size W w') := Lib.hid fun A c W h1 h2 h3 => by
    have q := pk_again hf hgB hE (n' := n + m) (by omega) (by omega) (fun k hk => by unfold cat; rw [if_pos (by omega)]) A c W h1 h2 h3
    simpa only [hform, ← hNI] using q
  have HR3 : Hid (∀ A c W, 14 + NI ≤ c → c ≤ 9223372036854775807 → Rd W W.heap.size A (14 + NI) f → Calls Try.prog 6 #[.slice A (14 + NI) c] W fun e w' => ∃ I ic, e = .returned (.tuple #[.agg (pkc a b ty v pr s d sp dp fl rp (.slice I NI ic)), .int .i64 0]) ∧ InB w' W.heap.size I NI (pkG f) ∧ Below W.heap.size W w') := Lib.hid fun A c W h1 h2 h3 => by
    have q := pk_again hf hf hE (n' := 14 + NI) (by omega) (by omega) (fun _ _ => rfl) A c W h1 h2 h3
    simpa only [hform, ← hNI] using q
  have HCG : Hid (∀ k, k < NI → pkG f k = pkG (cat n f fp) k) := Lib.hid fun k hk => by
    show f (14 + k) = cat n f fp (14 + k)
    unfold cat
    rw [if_pos (by omega)]
  have HCL := Lib.hid hcl
  have HRW := Lib.hid hr
  have HRP := Lib.hid hrp
  obtain ⟨D, hsD, hrD⟩ := slice_to (some ⟨b0, off, none⟩) n c (14 + NI) (by omega) hcap hc9
  have hsD' : ∀ W, (Instr.sliceAt 22 (.slice (some ⟨b0, off, none⟩) n c) none (some (.int .i64 (14 + (NI : Int)))) none).run Try.prog W = .ok (.slice D (14 + NI) c) W := fun W => by
    have h := hsD W
    rw [show ((14 + NI : Nat) : Int) = 14 + (NI : Int) by omega] at h
    exact h
  have HDR := Lib.hid hrD
  have hsA : ∀ W, (Instr.sliceAt 22 (.slice (some ⟨b0, off, none⟩) n c) (some (.int .i64 14)) (some (.int .i64 (14 + (NI : Int)))) none).run Try.prog W = .ok (.slice (some ⟨b0, off + 14, none⟩) NI (c - 14)) W := fun W => by
    have h := slice_at b0 off n c 14 (14 + NI) (by omega) (by omega) hcap hc9 (by omega) W
    rw [show ((14 + NI : Nat) : Int) = 14 + (NI : Int) by omega, show 14 + NI - 14 = NI by omega] at h
    exact h
  have w1 : IntKind.i64.wrap (14 + (NI : Int)) = 14 + (NI : Int) := by rw [IntKind.wrap_i64]; omega
  have g1 : ¬ (1500 : Int) < (n : Int) := by omega
  have g2 : ¬ (100 : Int) < (m : Int) := by omega
  have g3 : ¬ (n : Int) < 14 + (NI : Int) := by omega
  have g3' : decide ((n : Int) < 14 + (NI : Int)) = false := by simp; omega
  have HWN := Lib.hid hW
  have HM0 := Lib.hid (Mem.nil w)
  have hb0' := Lib.hid hb0
  clear hE hf hfp hr hrp hgB hform hNI hsD hrD hcl hW hb0
  go_enter Try.func4, Try.ntmps4
  go_wp2_with fail
  go_at_call 6
  refine (HR1.out _ c w hcap hc9 HRW.out).mono ?_
  rintro e u2 ⟨I1, ic1, rfl, hin, hb⟩
  have HI2 := Lib.hid hin
  have HM2 := Lib.hid (HM0.out.step hb)
  clear hb HM0 HR1 hin
  have HN : Hid ((u2.alloc (.cells pkz 32)).heap[u2.heap.size]? = some (.cells pkz 32 (0, 0))) := heap_alloc_new u2 _
  go_upto_region 6 with (first
    | (refine wpList_store_row rfl 32 (.tmp 5) (.tmp 23) rfl u2.heap.size (pkc a b ty v pr s d sp dp fl rp (.slice I1 NI ic1)) rfl rfl 32 pkz HN.out (by kernel_rfl) rfl (pk_one ..) ?_))
  change Code.wp _ _ _ _ ((u2.alloc (.cells pkz 32)).setRow u2.heap.size (pkc a b ty v pr s d sp dp fl rp (.slice I1 NI ic1)))
  obtain ⟨q5, hq⟩ : ∃ q, q = u2.heap.size := ⟨_, rfl⟩
  have HM3 : Hid (Mem w ((u2.alloc (.cells pkz 32)).setRow q5 (pkc a b ty v pr s d sp dp fl rp (.slice I1 NI ic1))) [(q5, .cells (pkc a b ty v pr s d sp dp fl rp (.slice I1 NI ic1)) 32 (0, 0))]) := Lib.hid (HM2.out.newrow pkz (pkc a b ty v pr s d sp dp fl rp (.slice I1 NI ic1)) 32 q5 hq)
  have HI3 : Hid (InB ((u2.alloc (.cells pkz 32)).setRow q5 (pkc a b ty v pr s d sp dp fl rp (.slice I1 NI ic1))) w.heap.size I1 NI (pkG f)) := Lib.hid (HI2.out.below (by rw [hq]; exact below_setRow (below_alloc u2 _) (Nat.le_refl _) _))
  rw [← hq]
  clear hq HN HM2 HI2
  generalize (u2.alloc (.cells pkz 32)).setRow q5 (pkc a b ty v pr s d sp dp fl rp (.slice I1 NI ic1)) = u3 at *
  have x51 : ∀ W : Stay u3, W.w.cell? ⟨q5, 51, none⟩ = some (.slice I1 NI ic1) := fun W => Stay.cell (blk_cell (HM3.out.get 0 rfl) 51) W
  have hrA : Rd u3 u3.heap.size (some ⟨b0, off + 14, none⟩) NI (pkG f) := .inr ⟨b0, off + 14, rfl, Nat.lt_of_lt_of_le hb0'.out HM3.out.below.size, fun k hk => by
    have h := HM3.out.cell hb0'.out (HCL.out (14 + k) (by have := HWN.out; omega))
    rw [← Nat.add_assoc] at h
    exact h⟩
  have HRA := Lib.hid hrA
  have hv1 : ∀ W : Stay u3, (convert 22 9 (.slice (some ⟨b0, off + 14, none⟩) NI (c - 14))).run Try.prog W.w = .ok (.string (strOfNums (nums NI (pkG f)))) W.w := fun W => run_convert_rd (P := Try.prog) (Stay.rd HRA.out W) 22 5 9 (c - 14) Try.underlying22 Try.underlying5 Try.underlying9
  have hv2 : ∀ W : Stay u3, (convert 22 9 (.slice I1 NI ic1)).run Try.prog W.w = .ok (.string (strOfNums (nums NI (pkG f)))) W.w := fun W => run_convert_rd (P := Try.prog) (Stay.rd HI3.out.rd W) 22 5 9 ic1 Try.underlying22 Try.underlying5 Try.underlying9
  generalize strOfNums (nums NI (pkG f)) = S3 at hv1 hv2
  clear hrA
  refine wp_region_stay (by kernel_rfl) (by kernel_rfl) ?_
  repeat (go_big_quiet_step (fail))
  refine wpQuiet_nil ?_
  intro w' hw'
  obtain ⟨W, rfl⟩ := hw'
  have HM4 := Lib.hid (HM3.out.step W.below)
  have HI4 := Lib.hid (HI3.out.below W.below)
  clear x51 hv1 hv2 hsA HM3 HI3 HRA
  generalize W.w = u4 at *
  have HO0 : Hid (Own (u4.alloc (.cells #[] 5)) u4.heap.size 5 (some ⟨u4.heap.size, 0, none⟩) 0 0 (fun _ => 0)) := Own.fresh u4 _ _ rfl (Nat.le_refl _) _ _
  have B40 : Hid (Below u4.heap.size u4 (u4.alloc (.cells #[] 5))) := below_alloc u4 _
  have HRN : Hid (Rd u4 u4.heap.size (some ⟨b0, off, none⟩) n f) := HM4.out.rd HRW.out
  have HPN : Hid (Rd u4 u4.heap.size A' m fp) := HM4.out.rd HRP.out
  go_wp2_with (first
    | (at_builtin
       refine wpList_append_rd rfl (.tmp 54) (.tmp 55) _ rfl u4.heap.size 5 i0 Try.underlying22 HI0.out HZ0.out HZ1.out HZ2.out rfl HO0.out rfl (HRN.out.keep B40.out) (by omega) (alloc_le u4 _) ?_
       intro A5 c5 u5 hown5 hg5 _
       rw [Nat.zero_add] at hown5
       have HO5 : Hid (Own u5 u4.heap.size 5 A5 n c5 f) := hown5.same fun k _ => by simp [cat]
       have B5 : Hid (Below u4.heap.size u4 u5) := B40.out.grown hg5 B40.out.size (fun k hk => HO0.out.at_ k hk)
       rw [Nat.zero_add]
       clear hown5 hg5 HO0 B40)
    | (at_builtin
       refine wpList_append_rd rfl (.tmp 56) (.tmp 57) _ rfl u4.heap.size 5 i0 Try.underlying22 HI0.out HZ0.out HZ1.out HZ2.out rfl HO5.out rfl (HPN.out.keep B5.out) (by omega) B5.out.size ?_
       intro A6 c6 u6 hown6 hg6 _
       have HO6 : Hid (Own u6 u4.heap.size 5 A6 (n + m) c6 (cat n f fp)) := Lib.hid hown6
       have B6 : Hid (Below u4.heap.size u4 u6) := B5.out.grown hg6 B5.out.size (fun k hk => HO5.out.at_ k hk)
       clear hown6 hg6 HO5 B5))
  go_at_call 6
  refine (HR2.out A6 c6 u6 HO6.out.cap HO6.out.cap_le HO6.out.rd).mono ?_
  rintro e u7 ⟨I2, ic2, rfl, hin, hb⟩
  have B7 : Hid (Below u4.heap.size u4 u7) := Lib.hid (B6.out.trans (hb.mono B6.out.size))
  have HM7 := Lib.hid (HM4.out.step B7.out)
  have HI7 := Lib.hid (HI4.out.below B7.out)
  have HJ7 := Lib.hid hin
  clear hb HM4 HI4 B6 B7 HO6 HR2 hin HRN HPN
  have HN : Hid ((u7.alloc (.cells pkz 32)).heap[u7.heap.size]? = some (.cells pkz 32 (0, 0))) := heap_alloc_new u7 _
  go_upto_region 9 with (first
    | (refine wpList_store_row rfl 32 (.tmp 7) (.tmp 60) rfl u7.heap.size (pkc a b ty v pr s d sp dp fl rp (.slice I2 NI ic2)) rfl rfl 32 pkz HN.out (by kernel_rfl) rfl (pk_one ..) ?_))
  change Code.wp _ _ _ _ ((u7.alloc (.cells pkz 32)).setRow u7.heap.size (pkc a b ty v pr s d sp dp fl rp (.slice I2 NI ic2)))
  obtain ⟨q7, hq⟩ : ∃ q, q = u7.heap.size := ⟨_, rfl⟩
  have HM8 : Hid (Mem w ((u7.alloc (.cells pkz 32)).setRow q7 (pkc a b ty v pr s d sp dp fl rp (.slice I2 NI ic2))) [(q5, .cells (pkc a b ty v pr s d sp dp fl rp (.slice I1 NI ic1)) 32 (0, 0)), (q7, .cells (pkc a b ty v pr s d sp dp fl rp (.slice I2 NI ic2)) 32 (0, 0))]) := Lib.hid (HM7.out.newrow pkz (pkc a b ty v pr s d sp dp fl rp (.slice I2 NI ic2)) 32 q7 hq)
  have B78 : Hid (Below u7.heap.size u7 ((u7.alloc (.cells pkz 32)).setRow q7 (pkc a b ty v pr s d sp dp fl rp (.slice I2 NI ic2)))) := Lib.hid (by rw [hq]; exact below_setRow (below_alloc u7 _) (Nat.le_refl _) _)
  have HI8 := Lib.hid (HI7.out.below B78.out)
  have HJ8 := Lib.hid (HJ7.out.below B78.out)
  rw [← hq]
  clear hq HN HM7 HI7 HJ7 B78
  generalize (u7.alloc (.cells pkz 32)).setRow q7 (pkc a b ty v pr s d sp dp fl rp (.slice I2 NI ic2)) = u8 at *
  have x51 : u8.cell? ⟨q5, 51, none⟩ = some (.slice I1 NI ic1) := blk_cell (HM8.out.get 0 rfl) 51
  go_wp2_with fail
  go_at_call 6
  refine (HR3.out D c u8 (by have := HWN.out; omega) hc9 (HDR.out _ _ f (HM8.out.rd HRW.out))).mono ?_
  rintro e u9 ⟨I3, ic3, rfl, hin, hb⟩
  have HM9 := Lib.hid (HM8.out.step hb)
  have HI9 := Lib.hid (HI8.out.below hb)
  have HJ9 := Lib.hid (HJ8.out.below hb)
  have HK9 := Lib.hid hin
  clear hb HM8 HI8 HJ8 HR3 hin x51
  have HN : Hid ((u9.alloc (.cells pkz 32)).heap[u9.heap.size]? = some (.cells pkz 32 (0, 0))) := heap_alloc_new u9 _
  go_upto_region 10 with (first
    | (refine wpList_store_row rfl 32 (.tmp 9) (.tmp 70) rfl u9.heap.size (pkc a b ty v pr s d sp dp fl rp (.slice I3 NI ic3)) rfl rfl 32 pkz HN.out (by kernel_rfl) rfl (pk_one ..) ?_))
  change Code.wp _ _ _ _ ((u9.alloc (.cells pkz 32)).setRow u9.heap.size (pkc a b ty v pr s d sp dp fl rp (.slice I3 NI ic3)))
  obtain ⟨q9, hq⟩ : ∃ q, q = u9.heap.size := ⟨_, rfl⟩
  have HMA : Hid (Mem w ((u9.alloc (.cells pkz 32)).setRow q9 (pkc a b ty v pr s d sp dp fl rp (.slice I3 NI ic3))) [(q5, .cells (pkc a b ty v pr s d sp dp fl rp (.slice I1 NI ic1)) 32 (0, 0)), (q7, .cells (pkc a b ty v pr s d sp dp fl rp (.slice I2 NI ic2)) 32 (0, 0)), (q9, .cells (pkc a b ty v pr s d sp dp fl rp (.slice I3 NI ic3)) 32 (0, 0))]) := Lib.hid (HM9.out.newrow pkz (pkc a b ty v pr s d sp dp fl rp (.slice I3 NI ic3)) 32 q9 hq)
  have B9A : Hid (Below u9.heap.size u9 ((u9.alloc (.cells pkz 32)).setRow q9 (pkc a b ty v pr s d sp dp fl rp (.slice I3 NI ic3)))) := Lib.hid (by rw [hq]; exact below_setRow (below_alloc u9 _) (Nat.le_refl _) _)
  have HIA := Lib.hid (HI9.out.below B9A.out)
  have HJA := Lib.hid (HJ9.out.below B9A.out)
  have HKA := Lib.hid (HK9.out.below B9A.out)
  rw [← hq]
  clear hq HN HM9 HI9 HJ9 HK9 B9A
  generalize (u9.alloc (.cells pkz 32)).setRow q9 (pkc a b ty v pr s d sp dp fl rp (.slice I3 NI ic3)) = uA at *
  have HC5 := Lib.hid (stay_heap (HMA.out.get 0 rfl))
  have HC7 := Lib.hid (stay_heap (HMA.out.get 1 rfl))
  have HC9 := Lib.hid (stay_heap (HMA.out.get 2 rfl))
  have HCF : Hid (∀ x, (∃ W : Stay uA, x = W.w) → x.rangeAt q5 13 (tupc v pr s d sp dp).toList) := Lib.hid fun x hx => pkc_flow _ _ _ _ _ _ _ _ _ _ _ _ (HC5.out x hx)
  have HJS : Hid (Rd uA uA.heap.size I2 NI (pkG f)) := Lib.hid (HJA.out.rd.same fun k hk => HCG.out k hk)
  have HS1 : Hid (∀ W : Stay uA, Calls Try.prog 8 #[.agg (pkc a b ty v pr s d sp dp fl rp (.slice I1 NI ic1)), .agg (pkc a b ty v pr s d sp dp fl rp (.slice I2 NI ic2))] W.w fun e w' => e = .returned (.bool true) ∧ Below W.w.heap.size W.w w') := Lib.hid fun W => same_any a b ty v pr s d sp dp fl rp NI I1 I2 ic1 ic2 (pkG f) W.w (Stay.rd HIA.out.rd W) (Stay.rd HJS.out W)
  have HS2 : Hid (∀ W : Stay uA, Calls Try.prog 8 #[.agg (pkc a b ty v pr s d sp dp fl rp (.slice I1 NI ic1)), .agg (pkc a b ty v pr s d sp dp fl rp (.slice I3 NI ic3))] W.w fun e w' => e = .returned (.bool true) ∧ Below W.w.heap.size W.w w') := Lib.hid fun W => same_any a b ty v pr s d sp dp fl rp NI I1 I3 ic1 ic3 (pkG f) W.w (Stay.rd HIA.out.rd W) (Stay.rd HKA.out.rd W)
  have HT1 := Lib.hid (turn_any v pr s d sp dp)
  have HT2 := Lib.hid (turn_any v pr d s dp sp)
  have heT := eqT v pr s d sp dp
  clear HJA HIA HKA HJS hsD' w1 g1 g2 g3 g3'
  refine wp_region_stay (by kernel_rfl) (by kernel_rfl) ?_
  repeat (first
    | (refine qload_row rfl 32 (.tmp 5) rfl q5 rfl 32 (pkc a b ty v pr s d sp dp fl rp (.slice I1 NI ic1)) (0, 0) _ HC5.out Try.underlying32 rfl (by kernel_rfl) ?_
       simp only [Act.put, List.setIfInBounds_toArray, List.set_cons_zero, List.set_cons_succ])
    | (refine qload_row rfl 32 (.tmp 7) rfl q7 rfl 32 (pkc a b ty v pr s d sp dp fl rp (.slice I2 NI ic2)) (0, 0) _ HC7.out Try.underlying32 rfl (by kernel_rfl) ?_
       simp only [Act.put, List.setIfInBounds_toArray, List.set_cons_zero, List.set_cons_succ])
    | (refine qload_row rfl 32 (.tmp 9) rfl q9 rfl 32 (pkc a b ty v pr s d sp dp fl rp (.slice I3 NI ic3)) (0, 0) _ HC9.out Try.underlying32 rfl (by kernel_rfl) ?_
       simp only [Act.put, List.setIfInBounds_toArray, List.set_cons_zero, List.set_cons_succ])
    | (refine qload_mid rfl 26 (.tmp 89) rfl q5 13 rfl (tupc v pr s d sp dp) _ HCF.out Try.underlying26 rfl (by kernel_rfl) ?_
       simp only [Act.put, List.setIfInBounds_toArray, List.set_cons_zero, List.set_cons_succ])
    | (refine qload_mid rfl 26 (.tmp 93) rfl q5 13 rfl (tupc v pr s d sp dp) _ HCF.out Try.underlying26 rfl (by kernel_rfl) ?_
       simp only [Act.put, List.setIfInBounds_toArray, List.set_cons_zero, List.set_cons_succ])
    | go_big_quiet_step (first
      | (go_at_call 8; with_reducible exact Calls.stay _ (HS1.out _))
      | (go_at_call 8; with_reducible exact Calls.stay _ (HS2.out _))
      | (go_at_call 11; with_reducible exact Calls.stay _ (HT1.out _))
      | (go_at_call 11; with_reducible exact Calls.stay _ (HT2.out _))
      | (go_at_call 5; with_reducible exact Calls.stay _ (KN.out _))))
  refine wpQuiet_nil ?_
  intro w' hw'
  obtain ⟨W, rfl⟩ := hw'
  have hb2 := W.below
  go_wp2_with fail
  go_ret
  exact ⟨rfl, HMA.out.below.trans (hb2.mono HMA.out.below.size)⟩
end Go.Proofs.Ytlchegibfopglaa
