import Derived.BigQuiet
import Derived.Test.YthjghofjdcepmaaGm16
/- Stage 14: the document's growing table in memory; begins, size, New. -/
namespace Go.Proofs.Ythjghofjdcepmaa
set_option maxRecDepth 100000
open Go.RowKit Go.Shelf
/-- The document's growing table at q stands for s; its table of now at qn, its next one at qx (if it moves). -/
structure RG (w : World) (q qn qx : Nat) (s : Gr) (G Gn Gx : Nat → Prop) : Prop where
  blk : w.heap[q]? = some (.cells #[.pointer (some ⟨qn, 0, none⟩), .pointer (if s.mv then some ⟨qx, 0, none⟩ else none), .bool s.mv, .int .i64 (s.most : Int), .int .i64 (s.at_ : Int)] 63 (0, 0))
  now : RTA w qn s.now Gn
  next : s.mv = true → RTA w qx s.next Gx
  mem : G q
  subN : ∀ k, Gn k → G k
  subX : s.mv = true → ∀ k, Gx k → G k
  apN : ¬ Gn q
  apX : s.mv = true → ¬ Gx q ∧ ∀ k, Gx k → ¬ Gn k
  old : ∀ k, G k → k < w.heap.size
def RGA (w : World) (q : Nat) (s : Gr) (G : Nat → Prop) : Prop := ∃ qn qx Gn Gx, RG w q qn qx s G Gn Gx
section
variable {w w' : World} {q qn qx : Nat} {s : Gr} {G Gn Gx : Nat → Prop}
theorem RG.keep {R : Nat → Prop} (h : RG w q qn qx s G Gn Gx) (hk : Kept R w w') (hd : ∀ k, G k → ¬ R k) : RG w' q qn qx s G Gn Gx :=
  ⟨(hk.block q (h.old q h.mem) (hd q h.mem)).trans h.blk, h.now.keep hk fun k q => hd k (h.subN k q), fun e => (h.next e).keep hk fun k q => hd k (h.subX e k q), h.mem, h.subN, h.subX, h.apN, h.apX, fun k hG => Nat.lt_of_lt_of_le (h.old k hG) hk.size⟩
theorem RG.step (h : RG w q qn qx s G Gn Gx) (hb : Below w.heap.size w w') : RG w' q qn qx s G Gn Gx := h.keep (Kept.of_below hb fun _ => False) fun _ _ q => q
theorem gFoot : FootG RGA := ⟨fun ⟨a, b, c, d, h⟩ hk hd => ⟨a, b, c, d, h.keep hk hd⟩, fun ⟨_, _, _, _, h⟩ => h.old⟩
theorem tlen_c {t : Tb} {H : Nat → Prop} {p : Nat} (h : RTA w p t H) : ∃ A c, ∀ W, Below w.heap.size w W → W.cell? ⟨p, 2, none⟩ = some (.slice A t.n c) := by
  obtain ⟨AF, cF, AM, cM, AE, cE, hX⟩ := h
  exact ⟨AE, cE, fun W hb => blk_cell (hX.step hb).blk 2⟩
theorem tent_c {t : Tb} {H : Nat → Prop} {p : Nat} (h : RTA w p t H) (ht : t.Ok) (W : World) (hb : Below w.heap.size w W) : Calls Try.prog 36 #[.pointer (some ⟨p, 0, none⟩)] W (ret (.int .i64 (t.entries : Int)) W) := by
  obtain ⟨AF, cF, AM, cM, AE, cE, hX⟩ := h
  exact rentries_any (hX.step hb) ht
theorem tmrk_c {t : Tb} {H : Nat → Prop} {p : Nat} (h : RTA w p t H) (ht : t.Ok) (W : World) (hb : Below w.heap.size w W) : Calls Try.prog 37 #[.pointer (some ⟨p, 0, none⟩)] W (ret (.int .i64 (t.marks : Int)) W) := by
  obtain ⟨AF, cF, AM, cM, AE, cE, hX⟩ := h
  exact rmarks_any (hX.step hb) ht
theorem tent_le {t : Tb} (ht : t.Ok) : t.entries ≤ 262144 ∧ t.marks ≤ 262144 := ⟨Nat.le_trans (cntI_le _ _) ht.top, Nat.le_trans (cntI_le _ _) ht.top⟩
set_option maxHeartbeats 2000000 in
theorem rbegins_any (h : RG w q qn qx s G Gn Gx) (hs : s.Ok) : Calls Try.prog 34 #[.pointer (some ⟨q, 0, none⟩)] w (ret (.bool s.begs) w) := by
  obtain ⟨AE, cE, hE⟩ := tlen_c h.now
  have HE := Lib.hid hE
  have HEN := Lib.hid (tent_c h.now hs.now)
  have HMK := Lib.hid (tmrk_c h.now hs.now)
  have HQ := Lib.hid h.blk
  obtain ⟨hle, hlm⟩ := tent_le hs.now
  have htop := hs.now.top
  have hmt := hs.top
  obtain ⟨n, hn⟩ : ∃ n, n = s.now.n := ⟨_, rfl⟩
  obtain ⟨en, hen⟩ : ∃ n, n = s.now.entries := ⟨_, rfl⟩
  obtain ⟨mk, hmk⟩ : ∃ n, n = s.now.marks := ⟨_, rfl⟩
  obtain ⟨mo, hmo⟩ : ∃ n, n = s.most := ⟨_, rfl⟩
  have HB : Hid (s.begs = (!s.mv && decide (n / 2 < en + mk) && (decide (n < mo) || decide (n / 8 ≤ mk)))) := Lib.hid (by unfold Gr.begs; rw [hn, hen, hmk, hmo])
  rw [← hn] at HE htop
  rw [← hen] at HEN hle
  rw [← hmk] at HMK hlm
  rw [← hmo] at HQ hmt
  obtain ⟨R, hR⟩ : ∃ R, R = s.begs := ⟨_, rfl⟩
  have HR := Lib.hid (hR.trans HB.out)
  rw [← hR]
  have x0 : w.cell? ⟨q, 0, none⟩ = some (.pointer (some ⟨qn, 0, none⟩)) := blk_cell HQ.out 0
  have x2 : w.cell? ⟨q, 2, none⟩ = some (.bool s.mv) := blk_cell HQ.out 2
  have x3 : w.cell? ⟨q, 3, none⟩ = some (.int .i64 (mo : Int)) := blk_cell HQ.out 3
  have y2 : w.cell? ⟨qn, 2, none⟩ = some (.slice AE n cE) := HE.out w (Below.refl _ _)
  have zd : (n : Int).tdiv 2 = ((n / 2 : Nat) : Int) := by rw [Int.tdiv_eq_ediv_of_nonneg (by omega)]; omega
  have zd2 : (n : Int) / 2 = ((n / 2 : Nat) : Int) := by omega
  have ze : (n : Int).tdiv 8 = ((n / 8 : Nat) : Int) := by rw [Int.tdiv_eq_ediv_of_nonneg (by omega)]; omega
  have ze2 : (n : Int) / 8 = ((n / 8 : Nat) : Int) := by omega
  obtain ⟨nh, hnh⟩ : ∃ k, k = n / 2 := ⟨_, rfl⟩
  obtain ⟨n8, hn8⟩ : ∃ k, k = n / 8 := ⟨_, rfl⟩
  rw [← hnh] at zd zd2 HR
  rw [← hn8] at ze ze2 HR
  have zw : IntKind.i64.wrap (nh : Int) = (nh : Int) := by rw [IntKind.wrap_i64]; omega
  have zw8 : IntKind.i64.wrap (n8 : Int) = (n8 : Int) := by rw [IntKind.wrap_i64]; omega
  have za : IntKind.i64.wrap ((en : Int) + (mk : Int)) = (en : Int) + (mk : Int) := by rw [IntKind.wrap_i64]; omega
  obtain ⟨mv, hmv⟩ : ∃ m, m = s.mv := ⟨_, rfl⟩
  rw [← hmv] at x2 HR HQ
  have HQL := Lib.hid (lt_heap HQ.out)
  clear h hs hE hn hen hmk hmo hR hnh hn8 hmv HB
  have X0 : Hid (∀ W : Stay w, W.w.cell? ⟨q, 0, none⟩ = some (.pointer (some ⟨qn, 0, none⟩))) := Lib.hid fun W => Stay.cell x0 W
  have X2 : Hid (∀ W : Stay w, W.w.cell? ⟨q, 2, none⟩ = some (.bool mv)) := Lib.hid fun W => Stay.cell x2 W
  cases mv with
  | true =>
    have HRF : Hid (R = false) := Lib.hid HR.out
    go_enter Try.func34, Try.ntmps34
    go_upto_region 3 with fail
    clear x0 x2 x3 y2
    have q0 := X0.out
    have q2 := X2.out
    refine wp_region_stay (by kernel_rfl) (by kernel_rfl) ?_
    repeat (go_big_quiet_step (first | (go_at_call 36; with_reducible exact Calls.stay _ (HEN.out _ (Stay.below _))) | (go_at_call 37; with_reducible exact Calls.stay _ (HMK.out _ (Stay.below _)))))
    refine wpQuiet_nil ?_
    intro w' hw'
    obtain ⟨W, rfl⟩ := hw'
    have HB2 := Lib.hid W.below
    go_wp2_with fail
    go_ret
    exact ⟨by rw [HRF.out]; rfl, HB2.out⟩
  | false =>
    by_cases c1 : en + mk ≤ nh
    · have c1' : (en : Int) + (mk : Int) ≤ (nh : Int) := by omega
      have HRF : Hid (R = false) := Lib.hid (by rw [HR.out, decide_eq_false (by omega)]; rfl)
      go_enter Try.func34, Try.ntmps34
      go_upto_region 3 with fail
      clear x0 x2 x3 y2
      have q0 := X0.out
      have q2 := X2.out
      refine wp_region_stay (by kernel_rfl) (by kernel_rfl) ?_
      repeat (go_big_quiet_step (first | (go_at_call 36; with_reducible exact Calls.stay _ (HEN.out _ (Stay.below _))) | (go_at_call 37; with_reducible exact Calls.stay _ (HMK.out _ (Stay.below _)))))
      refine wpQuiet_nil ?_
      intro w' hw'
      obtain ⟨W, rfl⟩ := hw'
      have HB2 := Lib.hid W.below
      clear q0 q2
      go_wp2_with fail
      go_ret
      exact ⟨by rw [HRF.out]; rfl, HB2.out⟩
    · have c1' : ¬ (en : Int) + (mk : Int) ≤ (nh : Int) := by omega
      have HRF : Hid (R = (decide (n < mo) || decide (n8 ≤ mk))) := Lib.hid (by rw [HR.out, decide_eq_true (by omega)]; rfl)
      go_enter Try.func34, Try.ntmps34
      go_upto_region 3 with fail
      clear x0 x2 x3 y2
      have q0 := X0.out
      have q2 := X2.out
      refine wp_region_stay (by kernel_rfl) (by kernel_rfl) ?_
      repeat (go_big_quiet_step (first | (go_at_call 36; with_reducible exact Calls.stay _ (HEN.out _ (Stay.below _))) | (go_at_call 37; with_reducible exact Calls.stay _ (HMK.out _ (Stay.below _)))))
      refine wpQuiet_nil ?_
      intro w' hw'
      obtain ⟨W, rfl⟩ := hw'
      have HB2 := Lib.hid W.below
      clear q0 q2
      generalize W.w = u2 at *
      have x0 : u2.cell? ⟨q, 0, none⟩ = some (.pointer (some ⟨qn, 0, none⟩)) := blk_cell ((HB2.out.block q HQL.out).trans HQ.out) 0
      have x3 : u2.cell? ⟨q, 3, none⟩ = some (.int .i64 (mo : Int)) := blk_cell ((HB2.out.block q HQL.out).trans HQ.out) 3
      by_cases c2 : n < mo
      · have c2' : (n : Int) < (mo : Int) := by omega
        go_wp2_with fail
        go_ret
        exact ⟨by rw [HRF.out, decide_eq_true c2]; rfl, HB2.out⟩
      · have c2' : ¬ (n : Int) < (mo : Int) := by omega
        have HC2 := Lib.hid c2
        by_cases c3 : n8 ≤ mk
        · have c3' : (n8 : Int) ≤ (mk : Int) := by omega
          have HC3 := Lib.hid c3
          clear c2 c3
          go_wp2_with (first
            | (go_at_call 37
               refine (HMK.out _ HB2.out).mono ?_
               rintro e u3 ⟨rfl, hb⟩
               have HB3 := Lib.hid (HB2.out.trans (hb.mono HB2.out.size))
               clear hb))
          go_ret
          exact ⟨by rw [HRF.out, decide_eq_false HC2.out, decide_eq_true HC3.out]; rfl, HB3.out⟩
        · have c3' : ¬ (n8 : Int) ≤ (mk : Int) := by omega
          have HC3 := Lib.hid c3
          clear c2 c3
          go_wp2_with (first
            | (go_at_call 37
               refine (HMK.out _ HB2.out).mono ?_
               rintro e u3 ⟨rfl, hb⟩
               have HB3 := Lib.hid (HB2.out.trans (hb.mono HB2.out.size))
               clear hb))
          go_ret
          exact ⟨by rw [HRF.out, decide_eq_false HC2.out, decide_eq_false HC3.out]; rfl, HB3.out⟩
def p16 : Nat → Nat
  | 0 => 16
  | j + 1 => 2 * p16 j
theorem p16_all {j : Nat} (hj : j ≤ 20) : 16 ≤ p16 j ∧ p16 j ≤ 16777216 ∧ (16 ≤ j → 1048576 ≤ p16 j) := by
  match j, hj with
  | 0, _ => decide
  | 1, _ => decide
  | 2, _ => decide
  | 3, _ => decide
  | 4, _ => decide
  | 5, _ => decide
  | 6, _ => decide
  | 7, _ => decide
  | 8, _ => decide
  | 9, _ => decide
  | 10, _ => decide
  | 11, _ => decide
  | 12, _ => decide
  | 13, _ => decide
  | 14, _ => decide
  | 15, _ => decide
  | 16, _ => decide
  | 17, _ => decide
  | 18, _ => decide
  | 19, _ => decide
  | 20, _ => decide
  | j + 21, h => exact absurd h (by omega)
set_option maxHeartbeats 2000000 in
theorem rsize_any (h : RG w q qn qx s G Gn Gx) (hs : s.Ok) : Calls Try.prog 35 #[.pointer (some ⟨q, 0, none⟩)] w (ret (.int .i64 (s.size : Int)) w) := by
  have HEN := Lib.hid (tent_c h.now hs.now)
  have HQ := Lib.hid h.blk
  have hle := (tent_le hs.now).1
  have hmt := hs.top
  obtain ⟨en, hen⟩ : ∃ n, n = s.now.entries := ⟨_, rfl⟩
  obtain ⟨mo, hmo⟩ : ∃ n, n = s.most := ⟨_, rfl⟩
  rw [← hen] at HEN hle
  rw [← hmo] at HQ hmt
  obtain ⟨R, hR⟩ : ∃ R, R = s.size := ⟨_, rfl⟩
  have HR : Hid (R = if mo < szN (4 * en) then mo else szN (4 * en)) := Lib.hid (by rw [hR]; unfold Gr.size; rw [hmo, hen])
  rw [← hR]
  have HQL := Lib.hid (lt_heap HQ.out)
  have zm : IntKind.i64.wrap (4 * (en : Int)) = 4 * (en : Int) := by rw [IntKind.wrap_i64]; omega
  clear h hs hen hmo hR
  go_enter Try.func35, Try.ntmps35
  go_wp2_with fail
  go_loopw [3] (fun vi wr => ∃ j n : Nat, j ≤ 20 ∧ n = p16 j ∧ vi = .int .i64 (n : Int) ∧ szF (20 - j) n (4 * en) = szN (4 * en) ∧ Below w.heap.size w wr) (fun vi _ => 4 * en - (intOf vi).toNat)
  case atStart => exact ⟨0, 16, by omega, rfl, rfl, rfl, Below.refl _ _⟩
  case round =>
    obtain ⟨j, n, hj, hn, rfl, hsz, hb⟩ := hrel
    obtain ⟨h1, h2, h3⟩ := p16_all hj
    have HS : Hid (2 * n = p16 (j + 1)) := Lib.hid (by rw [hn]; rfl)
    rw [← hn] at h1 h2 h3
    have HZ := Lib.hid hsz
    have HB := Lib.hid hb
    have x0 : wr.cell? ⟨q, 0, none⟩ = some (.pointer (some ⟨qn, 0, none⟩)) := blk_cell ((hb.block q HQL.out).trans HQ.out) 0
    have zn : IntKind.i64.wrap (2 * (n : Int)) = 2 * (n : Int) := by rw [IntKind.wrap_i64]; omega
    clear hn hsz hb
    by_cases c1 : n < 4 * en
    · have c1' : (n : Int) < 4 * (en : Int) := by omega
      go_wp2_with (first
        | (go_at_call 36
           refine (HEN.out _ HB.out).mono ?_
           rintro e u3 ⟨rfl, hb⟩
           have HB3 := Lib.hid (HB.out.trans (hb.mono HB.out.size))
           clear hb))
      go_roundw
      case rel =>
        refine ⟨j + 1, 2 * n, by omega, HS.out, by go_num, ?_, HB3.out⟩
        have hz := HZ.out
        rw [show 20 - j = (20 - (j + 1)) + 1 by omega] at hz
        unfold szF at hz
        rwa [if_pos c1] at hz
      case measure => simp [intOf]; omega
    · have c1' : ¬ (n : Int) < 4 * (en : Int) := by omega
      have hzn : szN (4 * en) = n := by
        rw [← HZ.out]
        cases hq : 20 - j with
        | zero => rfl
        | succ f =>
          unfold szF
          rw [if_neg c1]
      have HR2 : Hid (R = if mo < n then mo else n) := Lib.hid (by rw [HR.out, hzn])
      clear hzn h3
      go_upto_region 4 with (first
        | (go_at_call 36
           refine (HEN.out _ HB.out).mono ?_
           rintro e u3 ⟨rfl, hb⟩
           have HB3 := Lib.hid (HB.out.trans (hb.mono HB.out.size))
           clear hb))
      clear x0
      have x3 : u3.cell? ⟨q, 3, none⟩ = some (.int .i64 (mo : Int)) := blk_cell ((HB3.out.block q HQL.out).trans HQ.out) 3
      by_cases c2 : mo < n
      · have c2' : (mo : Int) < (n : Int) := by omega
        have HC2 := Lib.hid c2
        clear c2
        go_wp2_with fail
        go_ret
        exact ⟨by rw [HR2.out, if_pos HC2.out]; rfl, HB3.out⟩
      · have c2' : ¬ (mo : Int) < (n : Int) := by omega
        have HC2 := Lib.hid c2
        clear c2
        go_wp2_with fail
        go_ret
        exact ⟨by rw [HR2.out, if_neg HC2.out]; rfl, HB3.out⟩
end
theorem rgnew_any (w : World) (most : Nat) : Calls Try.prog 9 #[.int .i64 (most : Int)] w fun e w' => ∃ q G, e = .returned (.pointer (some ⟨q, 0, none⟩)) ∧ RGA w' q (Gr.new most) G ∧ (∀ k, G k → w.heap.size ≤ k ∧ k < w'.heap.size) ∧ Below w.heap.size w w' := by
  have HN := Lib.hid (rtnew_any w 16 (by decide) (by decide))
  have hbd : ∀ (qn : Nat) (w : World), (Instr.build 63 #[(0, .pointer (some ⟨qn, 0, none⟩)), (3, .int .i64 (most : Int))]).run Try.prog w = .ok (.agg #[.pointer (some ⟨qn, 0, none⟩), .pointer none, .bool false, .int .i64 (most : Int), .int .i64 0]) w := fun qn w => by kernel_rfl
  go_enter Try.func9, Try.ntmps9
  go_wp2_with (first
    | (go_at_call 27
       refine HN.out.mono ?_
       rintro e u ⟨qn, Gn, rfl, ha, hg, hb⟩
       have HA := Lib.hid ha
       have HG := Lib.hid hg
       have HB := Lib.hid hb
       clear ha hg hb))
  go_ret
  have hz : (u.alloc (.cells #[.pointer (some ⟨qn, 0, none⟩), .pointer none, .bool false, .int .i64 (most : Int), .int .i64 0] 63)).heap.size = u.heap.size + 1 := by simp
  have hb2 := below_alloc u (.cells #[.pointer (some ⟨qn, 0, none⟩), .pointer none, .bool false, .int .i64 (most : Int), .int .i64 0] 63)
  refine ⟨u.heap.size, fun k => Gn k ∨ k = u.heap.size, rfl, ⟨qn, 0, Gn, fun _ => False, heap_alloc_new u _, HA.out.step hb2, fun e => (by cases e), .inr rfl, fun k h => .inl h, fun e => (by cases e), fun h => ?_, fun e => (by cases e), fun k hk => ?_⟩, fun k hk => ?_, HB.out.trans (hb2.mono HB.out.size)⟩
  · have := (HG.out _ h).2
    omega
  · rcases hk with hk | rfl
    · have := (HG.out k hk).2
      omega
    · omega
  · have := HB.out.size
    rcases hk with hk | rfl
    · have := HG.out k hk
      omega
    · omega
end Go.Proofs.Ythjghofjdcepmaa
