/- Stage 19: the landed fill. -/
import Derived.Test.YtfchmmojhfjibaaSyn
import Derived.Test.YtfchmmojhfjibaaMgh
namespace Go.Proofs.Ytfchmmojhfjibaa
set_option maxRecDepth 100000
open Go.RowKit Go.Shelf
/-- The takers as cells: each looks at the p k-th slot of its permutation next. -/
def tkF (l : List Wt) (m : Nat) (p : Nat → Nat) (x : Nat) : Value :=
  if x % 4 = 0 then .int .i64 (oa (ordL l) (x / 4) : Int)
  else if x % 4 = 1 then .int .i64 (wa l (oa (ordL l) (x / 4))).w
  else if x % 4 = 2 then .int .i64 (slN (qL l (ordL l) m (x / 4)).1 (qL l (ordL l) m (x / 4)).2 m (p (x / 4)) : Int)
  else .int .i64 ((qL l (ordL l) m (x / 4)).2 : Int)
theorem tkF_0 (l : List Wt) (m : Nat) (p : Nat → Nat) (k : Nat) : tkF l m p (k * 4) = .int .i64 (oa (ordL l) k : Int) := by
  unfold tkF
  rw [if_pos (by omega), show k * 4 / 4 = k by omega]
theorem tkF_1 (l : List Wt) (m : Nat) (p : Nat → Nat) (k : Nat) : tkF l m p (k * 4 + 1) = .int .i64 (wa l (oa (ordL l) k)).w := by
  unfold tkF
  rw [if_neg (by omega), if_pos (by omega), show (k * 4 + 1) / 4 = k by omega]
theorem tkF_2 (l : List Wt) (m : Nat) (p : Nat → Nat) (k : Nat) : tkF l m p (k * 4 + 2) = .int .i64 (slN (qL l (ordL l) m k).1 (qL l (ordL l) m k).2 m (p k) : Int) := by
  unfold tkF
  rw [if_neg (by omega), if_neg (by omega), if_pos (by omega), show (k * 4 + 2) / 4 = k by omega]
theorem tkF_3 (l : List Wt) (m : Nat) (p : Nat → Nat) (k : Nat) : tkF l m p (k * 4 + 3) = .int .i64 ((qL l (ordL l) m k).2 : Int) := by
  unfold tkF
  rw [if_neg (by omega), if_neg (by omega), if_neg (by omega), show (k * 4 + 3) / 4 = k by omega]
theorem tkF_upd (l : List Wt) (m : Nat) (p : Nat → Nat) (k j x : Nat) : tkF l m (fun y => if y = k then j else p y) x = updV (tkF l m p) (k * 4 + 2) (.int .i64 (slN (qL l (ordL l) m k).1 (qL l (ordL l) m k).2 m j : Int)) x := by
  unfold updV
  by_cases e : x = k * 4 + 2
  · rw [if_pos e, e, tkF_2, if_pos rfl]
  · rw [if_neg e]
    unfold tkF
    by_cases e1 : x % 4 = 2
    · have hk : ¬ x / 4 = k := by omega
      rw [if_neg (by omega), if_neg (by omega), if_pos e1, if_neg (by omega), if_neg (by omega), if_pos e1]
      simp [hk]
    · by_cases e2 : x % 4 = 0
      · rw [if_pos e2, if_pos e2]
      · by_cases e3 : x % 4 = 1
        · rw [if_neg e2, if_pos e3, if_neg e2, if_pos e3]
        · rw [if_neg e2, if_neg e3, if_neg e1, if_neg e2, if_neg e3, if_neg e1]
/-- Behind i takes. -/
def Fst (l : List Wt) (m B T K cT cK i : Nat) (W : World) : Prop := ∃ p : Nat → Nat, FW W B T K cT cK m (ordL l).length (tabN l m i) (tkF l m p) ∧ ∀ k, k < (ordL l).length → ∀ j, j < p k → ¬ tabN l m i (slN (qL l (ordL l) m k).1 (qL l (ordL l) m k).2 m j) < 0
theorem Fst.step {l : List Wt} {m B T K cT cK i k t v : Nat} {W : World} (h : Fst l m B T K cT cK i W) (hm : szP (m : Int) = true) (hi : i < m) (hk : k < (ordL l).length) (hv : v < (wa l (oa (ordL l) k)).w.toNat) (e : i = t * (wsL l (ordL l)).sum + preW (wsL l (ordL l)) k + v) :
    Calls Try.prog 39 #[.pointer (some ⟨K, k * 4, none⟩), .slice (some ⟨T, 0, none⟩) m cT] W fun e w' => e = .returned (.tuple #[]) ∧ Fst l m B T K cT cK (i + 1) w' ∧ Below B W w' := by
  obtain ⟨p, hw, hocc⟩ := h
  obtain ⟨js, h1, h2, h3, h4⟩ := tab_step hm hi hk hv e
  have hq := qL_ok (l := l) hm (ordL l)
  have hp : p k ≤ js := by
    rcases Nat.lt_or_ge js (p k) with q | q
    · exact absurd h2 (hocc k hk js q)
    · exact q
  have hval : ∀ s, tabN l m i s = -1 ∨ 0 ≤ tabN l m i s := fun s => by
    unfold tabN liftO
    split
    · exact .inl rfl
    · exact .inr (by omega)
  have hm9 : m ≤ 100000 := by have := szP_le hm; omega
  refine (ptk_any hw (k * 4) (qL l (ordL l) m k).1 (qL l (ordL l) m k).2 (p k) js (oa (ordL l) k : Int) (by omega) (tkF_0 l m p k) (tkF_2 l m p k) (tkF_3 l m p k) hp (hq.2.2 k).2 hm9 ?_ ?_).mono ?_
  · rcases hval (slN (qL l (ordL l) m k).1 (qL l (ordL l) m k).2 m js) with r | r
    · exact r
    · omega
  · intro j _ hj r
    exact h3 j hj (by rw [r]; decide)
  · rintro e w' ⟨rfl, q1, q2⟩
    refine ⟨rfl, ⟨fun y => if y = k then js + 1 else p y, q1.same (fun s _ => h4 s) (fun x _ => tkF_upd l m p k (js + 1) x), fun y hy j hj => ?_⟩, q2⟩
    rw [h4]
    by_cases e1 : slN (qL l (ordL l) m y).1 (qL l (ordL l) m y).2 m j = slN (qL l (ordL l) m k).1 (qL l (ordL l) m k).2 m js
    · rw [if_pos e1]
      omega
    · rw [if_neg e1]
      by_cases e2 : y = k
      · subst e2
        have hj' : j < js + 1 := by simpa using hj
        refine h3 j ?_
        rcases (show j < js ∨ j = js by omega) with r | r
        · exact r
        · exact absurd (by rw [r]) e1
      · exact hocc y hy j (by simpa [e2] using hj)
set_option maxHeartbeats 2000000 in
theorem pfill_any {l : List Wt} {m B T K cT cK : Nat} {w : World} (hm : szP (m : Int) = true) (h0 : ordL l ≠ []) (h100 : ∀ k, k < (ordL l).length → (wa l (oa (ordL l) k)).w ≤ 100) (hl9 : (ordL l).length ≤ 16) (h : Fst l m B T K cT cK 0 w) :
    Calls Try.prog 27 #[.slice (some ⟨T, 0, none⟩) m cT, .slice (some ⟨K, 0, none⟩) (ordL l).length cK] w fun e w' => e = .returned (.tuple #[]) ∧ OwnC w' B 3 1 (some ⟨T, 0, none⟩) m cT (iV (tabV l m)) ∧ Below B w w' := by
  have HF := Lib.hid h
  have hm9 : m ≤ 65537 := by have := szP_le hm; omega
  have HPS : Hid (∀ x, x < (ordL l).length → preW (wsL l (ordL l)) (x + 1) = preW (wsL l (ordL l)) x + (wa l (oa (ordL l) x)).w.toNat) := Lib.hid fun x hx => by
    rw [preW_succ _ _ (by rw [wsL_len]; exact hx), wsL_at l hx]
  have HPL : Hid (preW (wsL l (ordL l)) (ordL l).length = (wsL l (ordL l)).sum) := Lib.hid (by rw [← wsL_len l, preW_all])
  have HP0 : Hid (preW (wsL l (ordL l)) 0 = 0) := Lib.hid rfl
  have HWP : Hid (0 < (wsL l (ordL l)).sum) := Lib.hid (wsL_pos h0)
  have HWQ : Hid (∀ k, k < (ordL l).length → ∃ wt : Nat, (wa l (oa (ordL l) k)).w = (wt : Int) ∧ 0 < wt ∧ wt ≤ 100) := Lib.hid fun k hk => by
    have h1 := (ordL_lt hk).2
    have h2 := h100 k hk
    exact ⟨(wa l (oa (ordL l) k)).w.toNat, by omega, by omega, by omega⟩
  have HSTP : Hid (∀ (i k t v : Nat) (W : World), Fst l m B T K cT cK i W → i < m → k < (ordL l).length → v < (wa l (oa (ordL l) k)).w.toNat → i = t * (wsL l (ordL l)).sum + preW (wsL l (ordL l)) k + v → Calls Try.prog 39 #[.pointer (some ⟨K, k * 4, none⟩), .slice (some ⟨T, 0, none⟩) m cT] W fun e w' => e = .returned (.tuple #[]) ∧ Fst l m B T K cT cK (i + 1) w' ∧ Below B W w') := Lib.hid fun i k t v W q1 q2 q3 q4 q5 => q1.step hm q2 q3 q4 q5
  have HCW : Hid (∀ (i k : Nat) (W : World), Fst l m B T K cT cK i W → k < (ordL l).length → W.cell? ⟨K, k * 4 + 1, none⟩ = some (.int .i64 (wa l (oa (ordL l) k)).w)) := Lib.hid fun i k W ⟨p, hw, _⟩ hk => by
    have a := (hw.ck (x := k * 4 + 1) (by omega)).1
    rw [tkF_1] at a
    exact a
  have HEND : Hid (∀ W, Fst l m B T K cT cK m W → OwnC W B 3 1 (some ⟨T, 0, none⟩) m cT (iV (tabV l m))) := Lib.hid fun W ⟨p, hw, _⟩ => by
    refine hw.tbl.same fun j _ => ?_
    unfold iV tabV
    rw [if_neg h0]
  obtain ⟨P, hP⟩ : ∃ P, P = (ordL l).length := ⟨_, rfl⟩
  have hP0 : 0 < P := by rw [hP]; exact List.length_pos_iff.2 h0
  obtain ⟨Z, hZ⟩ : ∃ Z, Z = (wsL l (ordL l)).sum := ⟨_, rfl⟩
  obtain ⟨pre, hpre⟩ : ∃ pre, pre = preW (wsL l (ordL l)) := ⟨_, rfl⟩
  rw [← hP] at HPS HPL HWQ HSTP HCW hl9 ⊢
  rw [← hZ] at HPL HWP HSTP
  rw [← hpre] at HPS HPL HP0 HSTP
  have d0 : ¬ (P : Int) = 0 := by omega
  have d0b : ((P : Int) == 0) = false := by rw [beq_eq_false_iff_ne]; exact d0
  have hM := szP_le hm
  have hM7 : 2 ≤ m := by omega
  clear hP hZ hpre h h0 h100 hm hM
  go_enter Try.func27, Try.ntmps27
  go_wp2
  go_step3
  go_wp2_with fail
  go_step3
  go_wp2_with fail
  go_loopw [4, 5, 13, 21] (fun vf _ _ _ wr => ∃ t i : Nat, i = t * Z ∧ i ≤ m ∧ vf = .int .i64 ((m - i : Nat) : Int) ∧ Fst l m B T K cT cK i wr ∧ Below B w wr) (fun vf _ _ _ _ => (intOf vf).toNat)
  case atStart => exact ⟨0, 0, by omega, Nat.zero_le _, rfl, HF.out, Below.refl _ _⟩
  case round =>
    obtain ⟨t, i0, hi0, him0, rfl, hf, hb⟩ := hrel
    have HF0 := Lib.hid hf
    have HB0 := Lib.hid hb
    have HI0 := Lib.hid hi0
    obtain ⟨q0, hq0⟩ : ∃ q, q = m - i0 := ⟨_, rfl⟩
    rw [← hq0]
    have HQ0 := Lib.hid (show q0 = m - i0 ∧ i0 ≤ m from ⟨hq0, him0⟩)
    clear hf hb HF hi0 hq0 him0
    go_wp2_with fail
    go_loopw [4, 5, 13, 21] (fun vf _ vk _ wr => ∃ k i : Nat, k ≤ P ∧ vk = .int .i64 (k : Int) ∧ i = i0 + pre k ∧ i ≤ m ∧ vf = .int .i64 ((m - i : Nat) : Int) ∧ Fst l m B T K cT cK i wr ∧ Below B w wr) (fun _ _ vk _ _ => P - (intOf vk).toNat)
    case atStart => exact ⟨0, i0, Nat.zero_le _, rfl, by have := HP0.out; omega, HQ0.out.2, by rw [← HQ0.out.1], HF0.out, HB0.out⟩
    case round =>
      obtain ⟨k, i1, hk, rfl, hi1, him1, rfl, hf, hb⟩ := hrel
      have HF1 := Lib.hid hf
      have HB1 := Lib.hid hb
      have HI1 := Lib.hid hi1
      obtain ⟨q1, hq1⟩ : ∃ q, q = m - i1 := ⟨_, rfl⟩
      rw [← hq1]
      have HQ1 := Lib.hid (show q1 = m - i1 ∧ i1 ≤ m from ⟨hq1, him1⟩)
      clear HF0 HB0 hi1 hq1 him1
      by_cases hlt : k < P
      · have l1 : (k : Int) < (P : Int) := by omega
        have k0 : (0 : Int) ≤ (k : Int) := by omega
        have k2 : ((k : Int)).toNat = k := by omega
        have zk : IntKind.i64.wrap ((k : Int) + 1) = (k : Int) + 1 := by rw [IntKind.wrap_i64]; omega
        have x1 := HCW.out i1 k wr hf hlt
        obtain ⟨wt, hwt, hwt0, hwt9⟩ := HWQ.out k hlt
        rw [hwt] at x1
        have HPK := Lib.hid (HPS.out k hlt)
        have HST := Lib.hid fun (i v : Nat) (W : World) (a1 : Fst l m B T K cT cK i W) (a2 : i < m) (a3 : v < wt) (a4 : i = i1 + v) => HSTP.out i k t v W a1 a2 hlt (by rw [hwt]; omega) (by have := HI1.out; have := HI0.out; omega)
        rw [hwt, Int.toNat_natCast] at HPK
        clear hf hb hwt
        go_wp2_with fail
        clear x1
        go_loopw [4, 21] (fun vf vv wr => ∃ v i : Nat, v ≤ wt ∧ vv = .int .i64 (v : Int) ∧ i = i1 + v ∧ i ≤ m ∧ vf = .int .i64 ((m - i : Nat) : Int) ∧ Fst l m B T K cT cK i wr ∧ Below B w wr) (fun _ vv _ => wt - (intOf vv).toNat)
        case atStart => exact ⟨0, i1, Nat.zero_le _, rfl, rfl, HQ1.out.2, by rw [← HQ1.out.1], HF1.out, HB1.out⟩
        case round =>
          obtain ⟨v, i, hv, rfl, hi, him, rfl, hf, hb⟩ := hrel
          have HF2 := Lib.hid hf
          have HB2 := Lib.hid hb
          have HI2 := Lib.hid hi
          obtain ⟨q, hq⟩ : ∃ q, q = m - i := ⟨_, rfl⟩
          rw [← hq]
          have HQ2 := Lib.hid (show q = m - i ∧ i ≤ m from ⟨hq, him⟩)
          clear HF1 HB1
          by_cases hvl : v < wt
          · have v1 : (v : Int) < (wt : Int) := by omega
            have zv : IntKind.i64.wrap ((v : Int) + 1) = (v : Int) + 1 := by rw [IntKind.wrap_i64]; omega
            by_cases hfull : i = m
            · have HE := Lib.hid (HEND.out wr (by have h := hf; rw [hfull] at h; exact h))
              have e1 : (q : Int) = 0 := by omega
              clear hf hb hi hq him hfull
              go_wp2_with fail
              try rw [Exit.noGoto_normal]
              go_end0
              exact ⟨rfl, HE.out, HB2.out⟩
            · have HC := Lib.hid (HST.out i v wr hf (by omega) hvl hi)
              have e1 : ¬ (q : Int) = 0 := by omega
              obtain ⟨q', hq'⟩ : ∃ q', q = q' + 1 := ⟨q - 1, by omega⟩
              have zq : IntKind.i64.wrap ((q : Int) - 1) = (q' : Int) := by rw [IntKind.wrap_i64]; omega
              have HQ3 := Lib.hid (show q' = m - (i + 1) ∧ i + 1 ≤ m by omega)
              clear hf hb hi hq him hfull hq'
              go_wp2_with (first
                | (go_at_call 39
                   refine HC.out.mono ?_
                   rintro e u ⟨rfl, h1, h2⟩
                   have HF3 := Lib.hid h1
                   have HB3 := Lib.hid (HB2.out.trans h2)
                   clear h1 h2))
              go_roundw
              case rel => exact ⟨v + 1, i + 1, hvl, by go_num, by have := HI2.out; omega, HQ3.out.2, by rw [← HQ3.out.1], HF3.out, HB3.out⟩
              case measure => simp [intOf]; omega
          · obtain rfl : v = wt := by omega
            have v1 : ¬ (v : Int) < (v : Int) := by omega
            clear hf hb hi hq him
            go_wp2_with fail
            go_roundw
            case rel => exact ⟨k + 1, i, hlt, by go_num, by have := HI2.out; have := HI1.out; have := HPK.out; omega, HQ2.out.2, by rw [← HQ2.out.1], HF2.out, HB2.out⟩
            case measure => simp [intOf]; omega
      · obtain rfl : k = P := by omega
        have l1 : ¬ (k : Int) < (k : Int) := by omega
        clear hf hb
        go_wp2_with fail
        go_roundw
        case rel => exact ⟨t + 1, i1, by have := HI1.out; have := HI0.out; have := HPL.out; rw [Nat.add_mul, Nat.one_mul]; omega, HQ1.out.2, by rw [← HQ1.out.1], HF1.out, HB1.out⟩
        case measure => have := HI1.out; have := HPL.out; have := HWP.out; have := HQ1.out; have := HQ0.out; simp [intOf]; omega
end Go.Proofs.Ytfchmmojhfjibaa
