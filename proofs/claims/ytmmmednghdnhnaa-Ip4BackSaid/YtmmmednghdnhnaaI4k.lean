/- The law's known of layer 3: a header without payload, written and read; an option that is a route. -/
import Derived.Test.YtmmmednghdnhnaaI4w
import Derived.Test.YtmmmednghdnhnaaI4r
namespace Go.Proofs.Ytmmmednghdnhnaa
open Go.RowKit
def zer : Nat → Int := fun _ => 0
theorem zer_byt : Byt zer := fun _ => ⟨Int.le_refl 0, (by decide : (0 : Int) ≤ 255)⟩
/-- What is written for it. -/
def kno : Nat → Int := cat 20 (hdr4 0 0 false 64 17 zer zer 0 zer 20) zer
theorem optE_zero (f : Nat → Int) : optE f 0 = 0 := by
  unfold optE
  rw [if_neg (by omega), optK_end (.inl (Nat.le_refl 0))]
  rfl
theorem fourB_zer : fourB zer = true := by
  unfold fourB
  rw [eqs_iff]
  intro k _ _
  unfold adr zer
  split <;> rfl
theorem kno_byt : Byt kno := by
  have hb := hdr0_byt (tos := 0) (id := 0) (df := false) (ttl := 64) (proto := 17) (on := 0) (total := 20) ⟨by omega, by omega⟩ ⟨by omega, by omega⟩ ⟨by omega, by omega⟩ ⟨by omega, by omega⟩ zer_byt zer_byt zer_byt (by omega) (by omega)
  have q := ofv_bd hb (20 + 0)
  exact cat_byt 20 (upd_byt (upd_byt hb 10 (by omega)) 11 (by omega)) zer_byt
theorem kno_read : rd4E kno 20 = 0 ∧ hl4 kno = 20 ∧ tl4 kno = 20 ∧ kno 8 = 64 ∧ kno 0 = 69 ∧ kno 3 = 20 := by
  obtain ⟨a1, a2, a3, _, _, _, a7, _⟩ := hdr4_read (tos := 0) (id := 0) (df := false) (ttl := 64) (proto := 17) (s := zer) (d := zer) (on := 0) (o := zer) (total := 20) ⟨by omega, by omega⟩ ⟨by omega, by omega⟩ ⟨by omega, by omega⟩ ⟨by omega, by omega⟩ zer_byt zer_byt zer_byt (optE_zero _) (by omega) (by omega) kno_byt 20 (Nat.le_refl _) (fun k hk => by unfold kno cat; rw [if_pos (by omega)])
  refine ⟨a1, a2, a3, a7, ?_, ?_⟩
  · have : kno 0 = hdr0 0 0 false 64 17 zer zer 0 zer 20 0 := by
      unfold kno cat
      rw [if_pos (by omega)]
      exact hdr4_at 0 (by omega) (by omega)
    rw [this]
    simp [hdr0]
  · have : kno 3 = hdr0 0 0 false 64 17 zer zer 0 zer 20 3 := by
      unfold kno cat
      rw [if_pos (by omega)]
      exact hdr4_at 3 (by omega) (by omega)
    rw [this]
    simp [hdr0]
def rte : Nat → Int := fun k => if k = 0 then 131 else if k = 1 then 3 else 0
theorem rte_byt : Byt rte := fun k => by
  unfold rte
  repeat' split
  all_goals omega
theorem rte_route : optE rte 4 = 12 := by
  have e : optK rte 4 0 = some [131] := by
    rw [optK_more (by omega) (by decide) (by decide) (by decide) (by decide)]
    have e3 : 0 + (rte (0 + 1)).toNat = 3 := by decide
    rw [e3, optK_end (.inr (by decide))]
    rfl
  unfold optE
  rw [if_neg (by decide), e]
  rfl
set_option maxRecDepth 100000 in
set_option maxHeartbeats 1000000 in
theorem known_any (w : World) : Calls Try.prog 6 #[] w fun e w' => e = .returned (.bool true) ∧ Below w.heap.size w w' := by
  obtain ⟨k1, k2, k3, k4, k5, k6⟩ := kno_read
  have HW := Lib.hid (write4_any 0 0 false 64 17 zer zer none 0 0 zer none 0 0 zer ⟨by omega, by omega⟩ ⟨by omega, by omega⟩ ⟨by omega, by omega⟩ ⟨by omega, by omega⟩ zer_byt zer_byt zer_byt zer_byt (by omega) (by omega) (by omega) (by omega) w (.inl rfl) (.inl rfl))
  go_enter Try.func6, Try.ntmps6
  go_wp2_with fail
  go_at_call 10
  refine HW.out.mono ?_
  rintro e w1 hq
  rcases hq with ⟨h, _⟩ | ⟨_, h, _⟩ | ⟨_, _, h, _⟩ | ⟨_, _, _, U, cu, rfl, hu, hb1⟩
  · exact absurd (optE_zero _) h
  · rw [fourB_zer] at h
    cases h
  · omega
  · have HU : Hid (Own w1 w.heap.size 5 U 20 cu kno) := hu
    have HB1 := Lib.hid hb1
    clear hu hb1 HW
    rw [show 20 + 0 + 0 = 20 from rfl]
    have HRD := Lib.hid (read4_any U 20 cu kno kno_byt (by omega) HU.out.cap HU.out.cap_le w1 HU.out.rd)
    rw [k1] at HRD
    go_wp2_with fail
    go_at_call 7
    refine HRD.out.mono ?_
    rintro e w2 hq
    rcases hq with ⟨h, _⟩ | ⟨_, O, co, P, cp, rfl, _, _, _, hb2⟩
    · exact absurd rfl h
    · rw [k2, k3, k4]
      have HB2 : Hid (Below w.heap.size w w2) := HB1.out.trans (hb2.mono HB1.out.size)
      have HU2 := Lib.hid (HU.out.below hb2)
      clear hb2 HRD HB1 HU
      obtain ⟨CS, hCS⟩ : ∃ CS, CS = ip4c (kno 1) (kno 4 * 256 + kno 5) (decide (16384 ≤ kno 6 * 256 + kno 7)) 64 (kno 9) (adr fun k => kno (12 + k)) (adr fun k => kno (16 + k)) (.slice O (20 - 20) co) := ⟨_, rfl⟩
      have h1 : CS.all (·.oneCell') = true := by rw [hCS]; exact ip4_one ..
      have hs : CS.size = 38 := by rw [hCS]; rfl
      have h3 : CS[3]? = some (.int .u8 64) := by rw [hCS]; rfl
      rw [← hCS]
      have H1 := Lib.hid h1
      have HSZ := Lib.hid hs
      have H3 := Lib.hid h3
      clear hCS h1 hs h3
      have HN : Hid ((w2.alloc (.cells ip4z 26)).heap[w2.heap.size]? = some (.cells ip4z 26 (0, 0))) := heap_alloc_new w2 _
      have HM : Hid (((w2.alloc (.cells ip4z 26)).setRow w2.heap.size CS).heap[w2.heap.size]? = some (.cells CS 26 (0, 0))) := setRow_heap _ _ _ CS _ _ HN.out
      have c3 : ((w2.alloc (.cells ip4z 26)).setRow w2.heap.size CS).cell? ⟨w2.heap.size, 3, none⟩ = some (.int .u8 64) := (blk_cell HM.out 3).trans H3.out
      have HB3 : Hid (Below w.heap.size w ((w2.alloc (.cells ip4z 26)).setRow w2.heap.size CS)) := below_setRow (HB2.out.alloc HB2.out.size _) HB2.out.size CS
      obtain ⟨g, hg, _, hlt, hcell, _⟩ := HU2.out.lies (by omega)
      subst hg
      have hst : ∀ k, k < 20 → ((w2.alloc (.cells ip4z 26)).setRow w2.heap.size CS).cell? ⟨g, k, none⟩ = some (.int .u8 (kno k)) := fun k hk => by
        have e1 : ((w2.alloc (.cells ip4z 26)).setRow w2.heap.size CS).heap[g]? = w2.heap[g]? := (setRow_other _ w2.heap.size g CS (by omega)).trans (Below.heap_alloc w2 _ g hlt)
        exact (World.cell?_of_block (a := ⟨g, k, none⟩) e1).trans (hcell k hk)
      have u0 := hst 0 (by omega)
      have u3 := hst 3 (by omega)
      rw [k5] at u0
      rw [k6] at u3
      clear hst hcell HB2 HM H3
      go_upto_region 3 with (first
        | (refine wpList_store_row rfl 26 (.tmp 3) (.tmp 14) rfl w2.heap.size CS rfl rfl 26 ip4z HN.out (HSZ.out.symm ▸ by kernel_rfl) (HSZ.out.symm ▸ rfl) H1.out ?_))
      change Code.wp _ _ _ _ ((w2.alloc (.cells ip4z 26)).setRow w2.heap.size CS)
      have hlt3 : w2.heap.size < ((w2.alloc (.cells ip4z 26)).setRow w2.heap.size CS).heap.size := by simp [World.setRow]
      generalize (w2.alloc (.cells ip4z 26)).setRow w2.heap.size CS = w3 at *
      clear HN H1 HSZ
      have HOP : Hid (∀ W : World, Calls Try.prog 12 #[.slice (some ⟨W.heap.size, 0, none⟩) 4 4] (W.alloc (.cells #[.int .u8 131, .int .u8 3, .int .u8 0, .int .u8 0] 5)) fun e w' => e = .returned (.int .i64 12) ∧ w' = W.alloc (.cells #[.int .u8 131, .int .u8 3, .int .u8 0, .int .u8 0] 5)) := fun W => by
        have q := options_any (some ⟨W.heap.size, 0, none⟩) 4 4 rte rte_byt (by omega) (by omega) (by omega) (W.alloc (.cells #[.int .u8 131, .int .u8 3, .int .u8 0, .int .u8 0] 5)) (.inr ⟨_, 0, rfl, by simp, fun k hk => by
          rw [Nat.zero_add]
          match k, hk with
          | 0, _ => go_simp; rfl
          | 1, _ => go_simp; rfl
          | 2, _ => go_simp; rfl
          | 3, _ => go_simp; rfl⟩)
        rw [rte_route] at q
        exact q.mono fun e w' ⟨h1, h2⟩ => ⟨h1, h2.symm⟩
      go_wp2_with (first
        | (go_at_call 12; refine (HOP.out _).mono ?_; rintro e w4 ⟨rfl, rfl⟩))
      go_ret
      exact ⟨rfl, HB3.out.alloc HB3.out.size _⟩
end Go.Proofs.Ytmmmednghdnhnaa
