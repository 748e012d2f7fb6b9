import Derived.BigQuiet
import Derived.Test.YtimcdnbfdkpffaaGreatGm27
/- Stage 14: the landed growing table: wants, begin, roomy. -/
namespace Go.Proofs.YtimcdnbfdkpffaaGreat
set_option maxRecDepth 100000
open Go.RowKit Go.Shelf
theorem may_8 {n : Nat} (h : mayI (n : Int) = true) : ∃ m, n = 8 * m := by
  obtain ⟨j, _, e⟩ := mayI_pow h
  rw [powJ_two] at e
  exact ⟨2 ^ j, by rw [Nat.pow_add] at e; omega⟩
section
variable {w w' : World} {p pn px : Nat} {s : Gr} {F Fn Fx : Nat → Prop}
set_option maxHeartbeats 2000000 in
theorem gwants_any (h : PGY w p pn px s F Fn Fx) (hs : s.Ok) : Calls Tryz.prog 149 #[.pointer (some ⟨p, 0, none⟩)] w (ret (.bool s.begs) w) := by
  have HPL := Lib.hid fun W (k : Below w.heap.size w W) => tabP.places (pt0_step h.now k) hs.now
  have HEN := Lib.hid fun W (k : Below w.heap.size w W) => tabP.entries (pt0_step h.now k) hs.now
  have HMK := Lib.hid fun W (k : Below w.heap.size w W) => tabP.marks (pt0_step h.now k) hs.now
  have HMO := Lib.hid fun W (k : Below w.heap.size w W) => (h.step k).moves
  have HQ := Lib.hid h.blk
  obtain ⟨hle, hlm⟩ := tent_le hs.now
  obtain ⟨m8, hm8⟩ := may_8 (pt0_may h.now)
  have htop := hs.now.top
  have hmt := hs.top
  obtain ⟨n, hn⟩ : ∃ n, n = s.now.n := ⟨_, rfl⟩
  obtain ⟨en, hen⟩ : ∃ n, n = s.now.entries := ⟨_, rfl⟩
  obtain ⟨mk, hmk⟩ : ∃ n, n = s.now.marks := ⟨_, rfl⟩
  obtain ⟨mo, hmo⟩ : ∃ n, n = s.most := ⟨_, rfl⟩
  have HB : Hid (s.begs = (!s.mv && decide (n / 2 < en + mk) && (decide (n < mo) || decide (n / 8 ≤ mk)))) := Lib.hid (by unfold Gr.begs; rw [hn, hen, hmk, hmo])
  rw [← hn] at HPL htop hm8
  have HM8 := Lib.hid hm8
  clear hm8
  rw [← hen] at HEN hle
  rw [← hmk] at HMK hlm
  rw [← hmo] at HQ hmt
  obtain ⟨R, hR⟩ : ∃ R, R = s.begs := ⟨_, rfl⟩
  have HR := Lib.hid (hR.trans HB.out)
  rw [← hR]
  have q0 : ∀ W : Stay w, W.w.cell? ⟨p, 0, none⟩ = some (.int .i64 (mo : Int)) := fun W => Stay.cell (blk_cell HQ.out 0) W
  have q1 : ∀ W : Stay w, W.w.cell? ⟨p, 1, none⟩ = some (.pointer (some ⟨pn, 0, none⟩)) := fun W => Stay.cell (blk_cell HQ.out 1) W
  have za : IntKind.i64.wrap ((en : Int) + (mk : Int)) = (en : Int) + (mk : Int) := by rw [IntKind.wrap_i64]; omega
  have zb : IntKind.i64.wrap (2 * ((en : Int) + (mk : Int))) = 2 * ((en : Int) + (mk : Int)) := by rw [IntKind.wrap_i64]; omega
  have zc : IntKind.i64.wrap (8 * (mk : Int)) = 8 * (mk : Int) := by rw [IntKind.wrap_i64]; omega
  obtain ⟨mv, hmv⟩ : ∃ m, m = s.mv := ⟨_, rfl⟩
  rw [← hmv] at HMO HR
  have HQ : Hid (∃ a, w.heap[p]? = some (.cells #[.int .i64 (mo : Int), .pointer (some ⟨pn, 0, none⟩), a, .int .i64 (s.at_ : Int)] 131 (0, 0))) := Lib.hid ⟨_, HQ.out⟩
  obtain ⟨aa, hQ⟩ := HQ.out
  clear HQ
  have HQ := Lib.hid hQ
  clear h hs hn hen hmk hmo hR hmv HB hQ
  by_cases c1 : n < 2 * (en + mk)
  · have e1 : decide (n / 2 < en + mk) = true := decide_eq_true (by have := HM8.out; omega)
    rw [e1] at HR
    have d1 : decide (2 * ((en : Int) + (mk : Int)) > (n : Int)) = true := by simp; omega
    have d2 : decide ((n : Int) < 2 * ((en : Int) + (mk : Int))) = true := by simp; omega
    have d3 : (n : Int) < 2 * ((en : Int) + (mk : Int)) := by omega
    cases mv with
    | true =>
      go_enter Tryz.func149, Tryz.ntmps149
      go_upto_region 1 with fail
      refine wp_region_stay (by kernel_rfl) (by kernel_rfl) ?_
      repeat (go_big_quiet_step (first | (go_at_call 103; with_reducible exact Calls.stay _ (HPL.out _ (Stay.below _))) | (go_at_call 175; with_reducible exact Calls.stay _ (HEN.out _ (Stay.below _))) | (go_at_call 176; with_reducible exact Calls.stay _ (HMK.out _ (Stay.below _)))))
      refine wpQuiet_nil ?_
      intro w' hw'
      obtain ⟨W, rfl⟩ := hw'
      have HB2 := Lib.hid W.below
      clear q0 q1
      go_wp2_with (first
        | (go_at_call 99
           refine (HMO.out _ HB2.out).mono ?_
           rintro e u ⟨rfl, hb⟩
           have HB3 := Lib.hid (HB2.out.trans (hb.mono HB2.out.size))
           have x0 : u.cell? ⟨p, 0, none⟩ = some (.int .i64 (mo : Int)) := blk_cell ((HB3.out.block p (lt_heap HQ.out)).trans HQ.out) 0
           clear hb))
      go_ret
      exact ⟨by rw [HR.out]; rfl, HB3.out⟩
    | false =>
      by_cases c2 : n < mo
      · have e2 : decide (n < mo) = true := decide_eq_true c2
        rw [e2] at HR
        have f3 : (n : Int) < (mo : Int) := by omega
        go_enter Tryz.func149, Tryz.ntmps149
        go_upto_region 1 with fail
        refine wp_region_stay (by kernel_rfl) (by kernel_rfl) ?_
        repeat (go_big_quiet_step (first | (go_at_call 103; with_reducible exact Calls.stay _ (HPL.out _ (Stay.below _))) | (go_at_call 175; with_reducible exact Calls.stay _ (HEN.out _ (Stay.below _))) | (go_at_call 176; with_reducible exact Calls.stay _ (HMK.out _ (Stay.below _)))))
        refine wpQuiet_nil ?_
        intro w' hw'
        obtain ⟨W, rfl⟩ := hw'
        have HB2 := Lib.hid W.below
        clear q0 q1
        go_wp2_with (first
          | (go_at_call 99
             refine (HMO.out _ HB2.out).mono ?_
             rintro e u ⟨rfl, hb⟩
             have HB3 := Lib.hid (HB2.out.trans (hb.mono HB2.out.size))
             have x0 : u.cell? ⟨p, 0, none⟩ = some (.int .i64 (mo : Int)) := blk_cell ((HB3.out.block p (lt_heap HQ.out)).trans HQ.out) 0
             clear hb))
        go_ret
        exact ⟨by rw [HR.out]; rfl, HB3.out⟩
      · have e2 : decide (n < mo) = false := decide_eq_false c2
        rw [e2] at HR
        have f3 : ¬ (n : Int) < (mo : Int) := by omega
        by_cases c3 : n ≤ 8 * mk
        · have e3 : decide (n / 8 ≤ mk) = true := decide_eq_true (by have := HM8.out; omega)
          rw [e3] at HR
          have f4 : (n : Int) ≤ 8 * (mk : Int) := by omega
          go_enter Tryz.func149, Tryz.ntmps149
          go_upto_region 1 with fail
          refine wp_region_stay (by kernel_rfl) (by kernel_rfl) ?_
          repeat (go_big_quiet_step (first | (go_at_call 103; with_reducible exact Calls.stay _ (HPL.out _ (Stay.below _))) | (go_at_call 175; with_reducible exact Calls.stay _ (HEN.out _ (Stay.below _))) | (go_at_call 176; with_reducible exact Calls.stay _ (HMK.out _ (Stay.below _)))))
          refine wpQuiet_nil ?_
          intro w' hw'
          obtain ⟨W, rfl⟩ := hw'
          have HB2 := Lib.hid W.below
          clear q0 q1
          go_wp2_with (first
            | (go_at_call 99
               refine (HMO.out _ HB2.out).mono ?_
               rintro e u ⟨rfl, hb⟩
               have HB3 := Lib.hid (HB2.out.trans (hb.mono HB2.out.size))
               have x0 : u.cell? ⟨p, 0, none⟩ = some (.int .i64 (mo : Int)) := blk_cell ((HB3.out.block p (lt_heap HQ.out)).trans HQ.out) 0
               clear hb))
          go_ret
          exact ⟨by rw [HR.out]; rfl, HB3.out⟩
        · have e3 : decide (n / 8 ≤ mk) = false := decide_eq_false (by have := HM8.out; omega)
          rw [e3] at HR
          have f4 : ¬ (n : Int) ≤ 8 * (mk : Int) := by omega
          have f5 : decide ((n : Int) ≤ 8 * (mk : Int)) = false := decide_eq_false f4
          have f6 : decide (8 * (mk : Int) ≥ (n : Int)) = false := decide_eq_false f4
          go_enter Tryz.func149, Tryz.ntmps149
          go_upto_region 1 with fail
          refine wp_region_stay (by kernel_rfl) (by kernel_rfl) ?_
          repeat (go_big_quiet_step (first | (go_at_call 103; with_reducible exact Calls.stay _ (HPL.out _ (Stay.below _))) | (go_at_call 175; with_reducible exact Calls.stay _ (HEN.out _ (Stay.below _))) | (go_at_call 176; with_reducible exact Calls.stay _ (HMK.out _ (Stay.below _)))))
          refine wpQuiet_nil ?_
          intro w' hw'
          obtain ⟨W, rfl⟩ := hw'
          have HB2 := Lib.hid W.below
          clear q0 q1
          go_wp2_with (first
            | (go_at_call 99
               refine (HMO.out _ HB2.out).mono ?_
               rintro e u ⟨rfl, hb⟩
               have HB3 := Lib.hid (HB2.out.trans (hb.mono HB2.out.size))
               have x0 : u.cell? ⟨p, 0, none⟩ = some (.int .i64 (mo : Int)) := blk_cell ((HB3.out.block p (lt_heap HQ.out)).trans HQ.out) 0
               clear hb))
          go_ret
          exact ⟨by rw [HR.out]; rfl, HB3.out⟩
  · have e1 : decide (n / 2 < en + mk) = false := decide_eq_false (by have := HM8.out; omega)
    rw [e1, Bool.and_false, Bool.false_and] at HR
    have d1 : decide (2 * ((en : Int) + (mk : Int)) > (n : Int)) = false := by simp; omega
    have d2 : decide ((n : Int) < 2 * ((en : Int) + (mk : Int))) = false := by simp; omega
    have d3 : ¬ (n : Int) < 2 * ((en : Int) + (mk : Int)) := by omega
    have d4 : decide (2 * ((en : Int) + (mk : Int)) ≤ (n : Int)) = true := by simp; omega
    cases mv with
    | true =>
      go_enter Tryz.func149, Tryz.ntmps149
      go_upto_region 1 with fail
      refine wp_region_stay (by kernel_rfl) (by kernel_rfl) ?_
      repeat (go_big_quiet_step (first | (go_at_call 103; with_reducible exact Calls.stay _ (HPL.out _ (Stay.below _))) | (go_at_call 175; with_reducible exact Calls.stay _ (HEN.out _ (Stay.below _))) | (go_at_call 176; with_reducible exact Calls.stay _ (HMK.out _ (Stay.below _)))))
      refine wpQuiet_nil ?_
      intro w' hw'
      obtain ⟨W, rfl⟩ := hw'
      have HB2 := Lib.hid W.below
      clear q0 q1
      go_wp2_with (first
        | (go_at_call 99
           refine (HMO.out _ HB2.out).mono ?_
           rintro e u ⟨rfl, hb⟩
           have HB3 := Lib.hid (HB2.out.trans (hb.mono HB2.out.size))
           have x0 : u.cell? ⟨p, 0, none⟩ = some (.int .i64 (mo : Int)) := blk_cell ((HB3.out.block p (lt_heap HQ.out)).trans HQ.out) 0
           clear hb))
      go_ret
      exact ⟨by rw [HR.out]; rfl, HB3.out⟩
    | false =>
      go_enter Tryz.func149, Tryz.ntmps149
      go_upto_region 1 with fail
      refine wp_region_stay (by kernel_rfl) (by kernel_rfl) ?_
      repeat (go_big_quiet_step (first | (go_at_call 103; with_reducible exact Calls.stay _ (HPL.out _ (Stay.below _))) | (go_at_call 175; with_reducible exact Calls.stay _ (HEN.out _ (Stay.below _))) | (go_at_call 176; with_reducible exact Calls.stay _ (HMK.out _ (Stay.below _)))))
      refine wpQuiet_nil ?_
      intro w' hw'
      obtain ⟨W, rfl⟩ := hw'
      have HB2 := Lib.hid W.below
      clear q0 q1
      go_wp2_with (first
        | (go_at_call 99
           refine (HMO.out _ HB2.out).mono ?_
           rintro e u ⟨rfl, hb⟩
           have HB3 := Lib.hid (HB2.out.trans (hb.mono HB2.out.size))
           have x0 : u.cell? ⟨p, 0, none⟩ = some (.int .i64 (mo : Int)) := blk_cell ((HB3.out.block p (lt_heap HQ.out)).trans HQ.out) 0
           clear hb))
      go_ret
      exact ⟨by rw [HR.out]; rfl, HB3.out⟩
set_option maxHeartbeats 2000000 in
theorem groomy_any (h : PGY w p pn px s F Fn Fx) (hs : s.Ok) : Calls Tryz.prog 151 #[.pointer (some ⟨p, 0, none⟩)] w (ret (.bool (!s.full)) w) := by
  have HMO := Lib.hid h.moves
  have HQ := Lib.hid h.blk
  have HNE := Lib.hid fun W (k : Below w.heap.size w W) => tabP.entries (pt0_step h.now k) hs.now
  obtain ⟨hle, hlm⟩ := tent_le hs.now
  have htn := hs.now.top
  unfold Gr.full Gr.tgt Gr.more
  cases hm : s.mv with
  | true =>
    have HE2 := Lib.hid fun W (k : Below w.heap.size w W) => tabP.entries (pt0_step (h.next hm) k) (hs.next hm)
    have HM2 := Lib.hid fun W (k : Below w.heap.size w W) => tabP.marks (pt0_step (h.next hm) k) (hs.next hm)
    have HP2 := Lib.hid fun W (k : Below w.heap.size w W) => tabP.places (pt0_step (h.next hm) k) (hs.next hm)
    obtain ⟨hxe, hxm⟩ := tent_le (hs.next hm)
    have htop := (hs.next hm).top
    have HM8 := Lib.hid (may_8 (pt0_may (h.next hm)))
    rw [hm, if_pos rfl] at HQ
    rw [hm] at HMO
    rw [if_pos rfl, if_pos rfl]
    obtain ⟨n, hn⟩ : ∃ n, n = s.next.n := ⟨_, rfl⟩
    obtain ⟨ie, hie⟩ : ∃ n, n = s.next.entries := ⟨_, rfl⟩
    obtain ⟨im, him⟩ : ∃ n, n = s.next.marks := ⟨_, rfl⟩
    obtain ⟨co, hco⟩ : ∃ n, n = s.now.entries := ⟨_, rfl⟩
    rw [← hn] at HP2 HM8 htop ⊢
    rw [← hie] at HE2 hxe ⊢
    rw [← him] at HM2 hxm ⊢
    rw [← hco] at HNE hle ⊢
    clear h hs hn hie him hco hm hlm htn
    have za : IntKind.i64.wrap ((ie : Int) + (im : Int)) = (ie : Int) + (im : Int) := by rw [IntKind.wrap_i64]; omega
    have zb : IntKind.i64.wrap ((ie : Int) + (im : Int) + (co : Int)) = (ie : Int) + (im : Int) + (co : Int) := by rw [IntKind.wrap_i64]; omega
    have zc : IntKind.i64.wrap ((ie : Int) + (im : Int) + (co : Int) + 1) = (ie : Int) + (im : Int) + (co : Int) + 1 := by rw [IntKind.wrap_i64]; omega
    have zd : IntKind.i64.wrap (4 * ((ie : Int) + (im : Int) + (co : Int) + 1)) = 4 * ((ie : Int) + (im : Int) + (co : Int) + 1) := by rw [IntKind.wrap_i64]; omega
    have ze : IntKind.i64.wrap (3 * (n : Int)) = 3 * (n : Int) := by rw [IntKind.wrap_i64]; omega
    by_cases c1 : 4 * (ie + im + co + 1) ≤ 3 * n
    · have HR : Hid ((!decide (n / 4 * 3 < ie + im + co + 1)) = true) := Lib.hid (by have := HM8.out; simp; omega)
      have f1 : 4 * ((ie : Int) + (im : Int) + (co : Int) + 1) ≤ 3 * (n : Int) := by omega
      have f2 : decide (4 * ((ie : Int) + (im : Int) + (co : Int) + 1) ≤ 3 * (n : Int)) = true := decide_eq_true f1
      clear c1
      go_enter Tryz.func151, Tryz.ntmps151
      have x1 : w.cell? ⟨p, 1, none⟩ = some (.pointer (some ⟨pn, 0, none⟩)) := blk_cell HQ.out 1
      go_upto_region 3 with (first
        | (go_at_call 99
           refine HMO.out.mono ?_
           rintro e u ⟨rfl, hb⟩
           have HB1 := Lib.hid hb
           have hq := (hb.block p (lt_heap HQ.out)).trans HQ.out
           have HQu := Lib.hid hq
           clear hb hq x1))
      have q1 : ∀ W : Stay u, W.w.cell? ⟨p, 1, none⟩ = some (.pointer (some ⟨pn, 0, none⟩)) := fun W => Stay.cell (blk_cell HQu.out 1) W
      have q2 : ∀ W : Stay u, W.w.cell? ⟨p, 2, none⟩ = some (.pointer (some ⟨px, 0, none⟩)) := fun W => Stay.cell (blk_cell HQu.out 2) W
      have HN2 := Lib.hid fun W (k : Below u.heap.size u W) => HNE.out W (HB1.out.trans (k.mono HB1.out.size))
      refine wp_region_stay (by kernel_rfl) (by kernel_rfl) ?_
      repeat (go_big_quiet_step (first | (go_at_call 175; with_reducible exact Calls.stay _ (HN2.out _ (Stay.below _)))))
      refine wpQuiet_nil ?_
      intro w' hw'
      obtain ⟨W, rfl⟩ := hw'
      have HB2 := Lib.hid (HB1.out.trans (W.below.mono HB1.out.size))
      clear q1 q2
      go_wp2_with (first
        | (go_at_call 175
           refine (HE2.out _ HB2.out).mono ?_
           rintro e v1 ⟨rfl, hb⟩
           have HV1 := Lib.hid (HB2.out.trans (hb.mono HB2.out.size))
           clear hb)
        | (go_at_call 176
           refine (HM2.out _ HV1.out).mono ?_
           rintro e v2 ⟨rfl, hb⟩
           have HV2 := Lib.hid (HV1.out.trans (hb.mono HV1.out.size))
           clear hb)
        | (go_at_call 103
           refine (HP2.out _ HV2.out).mono ?_
           rintro e v3 ⟨rfl, hb⟩
           have HV3 := Lib.hid (HV2.out.trans (hb.mono HV2.out.size))
           clear hb))
      go_ret
      exact ⟨by rw [HR.out]; rfl, HV3.out⟩
    · have HR : Hid ((!decide (n / 4 * 3 < ie + im + co + 1)) = false) := Lib.hid (by have := HM8.out; simp; omega)
      have f1 : ¬ 4 * ((ie : Int) + (im : Int) + (co : Int) + 1) ≤ 3 * (n : Int) := by omega
      have f2 : decide (4 * ((ie : Int) + (im : Int) + (co : Int) + 1) ≤ 3 * (n : Int)) = false := decide_eq_false f1
      clear c1
      go_enter Tryz.func151, Tryz.ntmps151
      have x1 : w.cell? ⟨p, 1, none⟩ = some (.pointer (some ⟨pn, 0, none⟩)) := blk_cell HQ.out 1
      go_upto_region 3 with (first
        | (go_at_call 99
           refine HMO.out.mono ?_
           rintro e u ⟨rfl, hb⟩
           have HB1 := Lib.hid hb
           have hq := (hb.block p (lt_heap HQ.out)).trans HQ.out
           have HQu := Lib.hid hq
           clear hb hq x1))
      have q1 : ∀ W : Stay u, W.w.cell? ⟨p, 1, none⟩ = some (.pointer (some ⟨pn, 0, none⟩)) := fun W => Stay.cell (blk_cell HQu.out 1) W
      have q2 : ∀ W : Stay u, W.w.cell? ⟨p, 2, none⟩ = some (.pointer (some ⟨px, 0, none⟩)) := fun W => Stay.cell (blk_cell HQu.out 2) W
      have HN2 := Lib.hid fun W (k : Below u.heap.size u W) => HNE.out W (HB1.out.trans (k.mono HB1.out.size))
      refine wp_region_stay (by kernel_rfl) (by kernel_rfl) ?_
      repeat (go_big_quiet_step (first | (go_at_call 175; with_reducible exact Calls.stay _ (HN2.out _ (Stay.below _)))))
      refine wpQuiet_nil ?_
      intro w' hw'
      obtain ⟨W, rfl⟩ := hw'
      have HB2 := Lib.hid (HB1.out.trans (W.below.mono HB1.out.size))
      clear q1 q2
      go_wp2_with (first
        | (go_at_call 175
           refine (HE2.out _ HB2.out).mono ?_
           rintro e v1 ⟨rfl, hb⟩
           have HV1 := Lib.hid (HB2.out.trans (hb.mono HB2.out.size))
           clear hb)
        | (go_at_call 176
           refine (HM2.out _ HV1.out).mono ?_
           rintro e v2 ⟨rfl, hb⟩
           have HV2 := Lib.hid (HV1.out.trans (hb.mono HV1.out.size))
           clear hb)
        | (go_at_call 103
           refine (HP2.out _ HV2.out).mono ?_
           rintro e v3 ⟨rfl, hb⟩
           have HV3 := Lib.hid (HV2.out.trans (hb.mono HV2.out.size))
           clear hb))
      go_ret
      exact ⟨by rw [HR.out]; rfl, HV3.out⟩
  | false =>
    have HE2 := HNE
    have HM2 := Lib.hid fun W (k : Below w.heap.size w W) => tabP.marks (pt0_step h.now k) hs.now
    have HP2 := Lib.hid fun W (k : Below w.heap.size w W) => tabP.places (pt0_step h.now k) hs.now
    have HM8 := Lib.hid (may_8 (pt0_may h.now))
    rw [hm] at HMO
    rw [if_neg Bool.false_ne_true, if_neg Bool.false_ne_true]
    obtain ⟨n, hn⟩ : ∃ n, n = s.now.n := ⟨_, rfl⟩
    obtain ⟨ie, hie⟩ : ∃ n, n = s.now.entries := ⟨_, rfl⟩
    obtain ⟨im, him⟩ : ∃ n, n = s.now.marks := ⟨_, rfl⟩
    rw [← hn] at HP2 HM8 htn ⊢
    rw [← hie] at HE2 hle ⊢
    rw [← him] at HM2 hlm ⊢
    clear h hs hn hie him hm HNE
    have za : IntKind.i64.wrap ((ie : Int) + (im : Int)) = (ie : Int) + (im : Int) := by rw [IntKind.wrap_i64]; omega
    have zb : IntKind.i64.wrap ((ie : Int) + (im : Int)) = (ie : Int) + (im : Int) := by rw [IntKind.wrap_i64]; omega
    have zc : IntKind.i64.wrap ((ie : Int) + (im : Int) + 1) = (ie : Int) + (im : Int) + 1 := by rw [IntKind.wrap_i64]; omega
    have zd : IntKind.i64.wrap (4 * ((ie : Int) + (im : Int) + 1)) = 4 * ((ie : Int) + (im : Int) + 1) := by rw [IntKind.wrap_i64]; omega
    have ze : IntKind.i64.wrap (3 * (n : Int)) = 3 * (n : Int) := by rw [IntKind.wrap_i64]; omega
    by_cases c1 : 4 * (ie + im + 0 + 1) ≤ 3 * n
    · have HR : Hid ((!decide (n / 4 * 3 < ie + im + 0 + 1)) = true) := Lib.hid (by have := HM8.out; simp; omega)
      have f1 : 4 * ((ie : Int) + (im : Int) + 1) ≤ 3 * (n : Int) := by omega
      have f2 : decide (4 * ((ie : Int) + (im : Int) + 1) ≤ 3 * (n : Int)) = true := decide_eq_true f1
      clear c1
      go_enter Tryz.func151, Tryz.ntmps151
      have x1 : w.cell? ⟨p, 1, none⟩ = some (.pointer (some ⟨pn, 0, none⟩)) := blk_cell HQ.out 1
      go_upto_region 4 with (first
        | (go_at_call 99
           refine HMO.out.mono ?_
           rintro e u ⟨rfl, hb⟩
           have HB1 := Lib.hid hb
           clear hb x1))
      go_wp2_with (first
        | (go_at_call 175
           refine (HE2.out _ HB1.out).mono ?_
           rintro e v1 ⟨rfl, hb⟩
           have HV1 := Lib.hid (HB1.out.trans (hb.mono HB1.out.size))
           clear hb)
        | (go_at_call 176
           refine (HM2.out _ HV1.out).mono ?_
           rintro e v2 ⟨rfl, hb⟩
           have HV2 := Lib.hid (HV1.out.trans (hb.mono HV1.out.size))
           clear hb)
        | (go_at_call 103
           refine (HP2.out _ HV2.out).mono ?_
           rintro e v3 ⟨rfl, hb⟩
           have HV3 := Lib.hid (HV2.out.trans (hb.mono HV2.out.size))
           clear hb))
      go_ret
      exact ⟨by rw [HR.out]; rfl, HV3.out⟩
    · have HR : Hid ((!decide (n / 4 * 3 < ie + im + 0 + 1)) = false) := Lib.hid (by have := HM8.out; simp; omega)
      have f1 : ¬ 4 * ((ie : Int) + (im : Int) + 1) ≤ 3 * (n : Int) := by omega
      have f2 : decide (4 * ((ie : Int) + (im : Int) + 1) ≤ 3 * (n : Int)) = false := decide_eq_false f1
      clear c1
      go_enter Tryz.func151, Tryz.ntmps151
      have x1 : w.cell? ⟨p, 1, none⟩ = some (.pointer (some ⟨pn, 0, none⟩)) := blk_cell HQ.out 1
      go_upto_region 4 with (first
        | (go_at_call 99
           refine HMO.out.mono ?_
           rintro e u ⟨rfl, hb⟩
           have HB1 := Lib.hid hb
           clear hb x1))
      go_wp2_with (first
        | (go_at_call 175
           refine (HE2.out _ HB1.out).mono ?_
           rintro e v1 ⟨rfl, hb⟩
           have HV1 := Lib.hid (HB1.out.trans (hb.mono HB1.out.size))
           clear hb)
        | (go_at_call 176
           refine (HM2.out _ HV1.out).mono ?_
           rintro e v2 ⟨rfl, hb⟩
           have HV2 := Lib.hid (HV1.out.trans (hb.mono HV1.out.size))
           clear hb)
        | (go_at_call 103
           refine (HP2.out _ HV2.out).mono ?_
           rintro e v3 ⟨rfl, hb⟩
           have HV3 := Lib.hid (HV2.out.trans (hb.mono HV2.out.size))
           clear hb))
      go_ret
      exact ⟨by rw [HR.out]; rfl, HV3.out⟩
end
end Go.Proofs.YtimcdnbfdkpffaaGreat
