/- Stage 17: what is struck out; PrimeAll. -/
import Derived.Test.YtkifcolaboalgaaPme
import Derived.Test.YtkifcolaboalgaaVals
namespace Go.Proofs.Ytkifcolaboalgaa
set_option maxRecDepth 100000
open Go.RowKit Go.Shelf
theorem Try.infoBL : (Try.prog.info? 4).map (fun i => (i.zero, i.size, i.bytes)) = some (some (.bool false), 1, 1) := by kernel_rfl
def bfl (f : Nat → Bool) (k : Nat) : Value := .bool (f k)
/-- What is struck out by the numbers from 2 on below d. -/
def Hit (n d k : Nat) : Prop := ∃ e, 2 ≤ e ∧ e < d ∧ k % e = 0 ∧ e + e ≤ k ∧ k ≤ n
theorem hit_two (n k : Nat) : ¬ Hit n 2 k := fun ⟨e, h1, h2, _⟩ => by omega
theorem hit_succ {n d k : Nat} (hd : 2 ≤ d) : Hit n (d + 1) k ↔ Hit n d k ∨ (k % d = 0 ∧ d + d ≤ k ∧ k ≤ n) := by
  constructor
  · rintro ⟨e, h1, h2, h3, h4, h5⟩
    rcases (show e < d ∨ e = d by omega) with q | rfl
    · exact .inl ⟨e, h1, q, h3, h4, h5⟩
    · exact .inr ⟨h3, h4, h5⟩
  · rintro (⟨e, h1, h2, h3, h4, h5⟩ | ⟨h3, h4, h5⟩)
    · exact ⟨e, h1, by omega, h3, h4, h5⟩
    · exact ⟨d, hd, by omega, h3, h4, h5⟩
theorem hit_end {n d k : Nat} (hd : n < d * d) (hk : 2 ≤ k) (hkn : k ≤ n) : Hit n d k ↔ ld k ≠ k := by
  constructor
  · rintro ⟨e, h1, _, h3, h4, _⟩ h
    exact (ld_at hk).low e h1 (by omega) h3
  · intro h
    have hl := ld_at hk
    have hs := ld_low hk h
    have hle := hl.le hk
    refine ⟨ld k, hl.two, ?_, hl.div, ?_, hkn⟩
    · rcases Nat.lt_or_ge (ld k) d with q | q
      · exact q
      · have := Nat.mul_le_mul q q
        omega
    · have h2 := hl.two
      have : 2 * ld k ≤ ld k * ld k := Nat.mul_le_mul_right _ h2
      omega
theorem mod_step {k d m : Nat} (hd : 0 < d) (hm : m % d = 0) (hk : k % d = 0) (h1 : m ≤ k) (h2 : k < m + d) : k = m := by
  obtain ⟨a, ha⟩ := Nat.dvd_of_mod_eq_zero hm
  obtain ⟨b, hb⟩ := Nat.dvd_of_mod_eq_zero hk
  subst ha hb
  have h3 : a ≤ b := Nat.le_of_mul_le_mul_left h1 hd
  have h4 : b < a + 1 := Nat.lt_of_mul_lt_mul_left (a := d) (by rw [Nat.mul_add, Nat.mul_one]; exact h2)
  rw [show a = b by omega]
set_option maxHeartbeats 2000000 in
theorem rstruck_any (n : Nat) (hn : n ≤ 3000) (w : World) : Calls Try.prog 14 #[.int .i64 (n : Int)] w fun e w' => ∃ g f, e = .returned (.slice (some ⟨g, 0, none⟩) (n + 1) (n + 1)) ∧ OwnC w' w.heap.size 4 1 (some ⟨g, 0, none⟩) (n + 1) (n + 1) (bfl f) ∧ (∀ k, 2 ≤ k → k ≤ n → (f k = true ↔ ld k ≠ k)) ∧ Below w.heap.size w w' := by
  obtain ⟨N, hN⟩ : ∃ N, N = n + 1 := ⟨_, rfl⟩
  have HMB : Hid (∀ W : World, ∃ w', (Instr.makeSlice 28 (.int .i64 (N : Int)) (.int .i64 (N : Int))).run Try.prog W = .ok (.slice (some ⟨W.heap.size, 0, none⟩) N N) w' ∧ OwnC w' W.heap.size 4 1 (some ⟨W.heap.size, 0, none⟩) N N (bfl fun _ => false) ∧ W.grownBy w' none) := Lib.hid fun W => by
    obtain ⟨i0, hi0, hz0, hz1, hz2⟩ := info_parts Try.infoBL
    exact run_make_vals (P := Try.prog) W W.heap.size 28 4 i0 (.bool false) Try.underlying28 hi0 hz0 hz1 rfl N (by rw [hz2]; omega) (by unfold maxLen; omega) (Nat.le_refl _)
  obtain ⟨u, hm, ho, hg⟩ := HMB.out w
  have HO := Lib.hid ho
  have HB : Hid (Below w.heap.size w u) := Lib.hid ((Below.refl _ _).grown hg (Nat.le_refl _) fun _ h => nomatch h)
  have zN : IntKind.i64.wrap ((n : Int) + 1) = (N : Int) := by rw [IntKind.wrap_i64]; omega
  have HNn := Lib.hid hN
  rw [← hN]
  obtain ⟨g, hgw⟩ : ∃ g, g = w.heap.size := ⟨_, rfl⟩
  rw [← hgw] at hm HO
  have HGW := Lib.hid hgw
  clear ho hg HMB hN hgw
  go_enter Try.func14, Try.ntmps14
  go_wp2_with fail
  clear hm zN
  go_loopw [4] (fun vd wr => ∃ (d : Nat) (f : Nat → Bool), 2 ≤ d ∧ d ≤ n + 2 ∧ vd = .int .i64 (d : Int) ∧ OwnC wr g 4 1 (some ⟨g, 0, none⟩) N N (bfl f) ∧ (∀ k, f k = true ↔ Hit n d k) ∧ Below w.heap.size w wr) (fun vd _ => n + 2 - (intOf vd).toNat)
  case atStart => exact ⟨2, fun _ => false, Nat.le_refl _, by omega, rfl, HO.out, fun k => ⟨fun h => absurd h Bool.false_ne_true, fun h => absurd h (hit_two n k)⟩, HB.out⟩
  case round =>
    obtain ⟨d, f, hd2, hdn, rfl, ho, hf, hb⟩ := hrel
    have HOr := Lib.hid ho
    have HF := Lib.hid hf
    have HBr := Lib.hid hb
    clear ho hf hb
    obtain ⟨s, hs⟩ : ∃ s, s = d * d := ⟨_, rfl⟩
    have hs9 : s ≤ 3002 * 3002 := by rw [hs]; exact Nat.mul_le_mul (by omega) (by omega)
    have zs : IntKind.i64.wrap ((d : Int) * (d : Int)) = (s : Int) := by rw [IntKind.wrap_i64, hs, Int.natCast_mul]; omega
    have zd : IntKind.i64.wrap ((d : Int) + 1) = (d : Int) + 1 := by rw [IntKind.wrap_i64]; omega
    have zdd : IntKind.i64.wrap ((d : Int) + (d : Int)) = (d : Int) + (d : Int) := by rw [IntKind.wrap_i64]; omega
    have HSD := Lib.hid hs
    by_cases hsn : s ≤ n
    · have l1 : (s : Int) ≤ (n : Int) := by omega
      have hdn2 : d ≤ n := by
        have := Nat.mul_le_mul_left d hd2
        omega
      clear hs
      go_wp2_with fail
      clear zs
      go_loopw [5] (fun vm wx => ∃ (m : Nat) (f' : Nat → Bool), d + d ≤ m ∧ m % d = 0 ∧ m ≤ n + d + d ∧ vm = .int .i64 (m : Int) ∧ OwnC wx g 4 1 (some ⟨g, 0, none⟩) N N (bfl f') ∧ (∀ k, f' k = true ↔ Hit n d k ∨ (k % d = 0 ∧ d + d ≤ k ∧ k < m ∧ k ≤ n)) ∧ Below w.heap.size w wx) (fun vm _ => n + 1 - (intOf vm).toNat)
      case atStart => exact ⟨d + d, f, Nat.le_refl _, by rw [Nat.add_mod_right, Nat.mod_self], by omega, by go_num, HOr.out, fun k => ⟨fun h => .inl ((HF.out k).1 h), fun h => h.elim (fun q => (HF.out k).2 q) fun q => by omega⟩, HBr.out⟩
      case round =>
        obtain ⟨m, f', hm1, hm2, hm3, rfl, ho, hf, hb⟩ := hrel
        have HOx := Lib.hid ho
        have HFx := Lib.hid hf
        have HBx := Lib.hid hb
        have HM := Lib.hid (show d + d ≤ m ∧ m % d = 0 ∧ m ≤ n + d + d from ⟨hm1, hm2, hm3⟩)
        have HD2 := Lib.hid hd2
        by_cases hmn : m ≤ n
        · have l2 : (m : Int) ≤ (n : Int) := by omega
          have m0 : (0 : Int) ≤ (m : Int) := by omega
          have m1 : (m : Int) < (N : Int) := by have := HNn.out; omega
          have m2 : ((m : Int)).toNat = m := by omega
          have zm : IntKind.i64.wrap ((m : Int) + (d : Int)) = (m : Int) + (d : Int) := by rw [IntKind.wrap_i64]; omega
          obtain ⟨g', e, _, hgl, hc, hfz⟩ := ho.lies (by omega)
          injection e with e
          injection e with e
          subst e
          have xc : _ = some (Value.bool (f' m)) := hc m (by have := HNn.out; omega)
          have xf := hfz m
          clear ho hf hb hc hfz hgl hm1 hm2 hm3
          go_wp2_with fail
          go_roundw
          case rel =>
            obtain ⟨q1, q2, q3⟩ := HM.out
            refine ⟨m + d, fun k => if k = m then true else f' k, by omega, by rw [Nat.add_mod_right]; exact q2, by omega, by go_num, (HOx.out.set_ m (.bool true)).same fun k _ => ?_, fun k => ?_, HBx.out.setCell (p := ⟨g, m, none⟩) (by show w.heap.size ≤ g; have := HGW.out; omega) _⟩
            · show Value.bool (if k = m then true else f' k) = updV (bfl f') m (.bool true) k
              unfold updV bfl
              by_cases e : k = m
              · rw [if_pos e, if_pos e]
              · rw [if_neg e, if_neg e]
            · have h2 := HD2.out
              show (if k = m then true else f' k) = true ↔ _
              by_cases e : k = m
              · rw [if_pos e]
                exact ⟨fun _ => .inr ⟨by rw [e]; exact q2, by omega, by omega, by omega⟩, fun _ => rfl⟩
              · rw [if_neg e, HFx.out k]
                constructor
                · rintro (q | ⟨a1, a2, a3, a4⟩)
                  · exact .inl q
                  · exact .inr ⟨a1, a2, by omega, a4⟩
                · rintro (q | ⟨a1, a2, a3, a4⟩)
                  · exact .inl q
                  · refine .inr ⟨a1, a2, ?_, a4⟩
                    rcases Nat.lt_or_ge k m with r | r
                    · exact r
                    · exact absurd (mod_step (by omega) q2 a1 r a3) e
          case measure => simp [intOf]; omega
        · have l2 : ¬ (m : Int) ≤ (n : Int) := by omega
          clear ho hf hb hm1 hm2 hm3
          go_wp2_with fail
          go_roundw
          case rel =>
            refine ⟨d + 1, f', by omega, by omega, by go_num, HOx.out, fun k => ?_, HBx.out⟩
            rw [HFx.out k, hit_succ HD2.out]
            constructor
            · rintro (q | ⟨a1, a2, a3, a4⟩)
              · exact .inl q
              · exact .inr ⟨a1, a2, a4⟩
            · rintro (q | ⟨a1, a2, a4⟩)
              · exact .inl q
              · exact .inr ⟨a1, a2, by omega, a4⟩
          case measure => simp [intOf]; omega
    · have l1 : ¬ (s : Int) ≤ (n : Int) := by omega
      clear hs
      go_wp2_with fail
      go_ret
      exact ⟨g, rfl, f, by rw [← HGW.out]; exact HOr.out, fun k h1 h2 => (HF.out k).trans (hit_end (by rw [← HSD.out]; omega) h1 h2), HBr.out⟩
theorem isP_nat {x : Nat} (hx : x ≤ 3000) (h2 : 2 ≤ x) {b : Bool} (hb : b = true ↔ ld x ≠ x) : isP (x : Int) = !b := by
  cases b with
  | true =>
    rw [isP_no (hb.1 rfl)]
    rfl
  | false =>
    rw [isP_yes h2 (by omega) (by
      cases Nat.decEq (ld x) x with
      | isTrue h => exact h
      | isFalse h => exact absurd (hb.2 h) Bool.false_ne_true)]
    rfl
theorem ris_any {n N g : Nat} {f : Nat → Bool} (hn : n ≤ 3000) (hN : N = n + 1) (x : Nat) (hx : x ≤ n) (w : World) (hc : w.cell? ⟨g, x, none⟩ = some (.bool (f x))) (hf : 2 ≤ x → (f x = true ↔ ld x ≠ x)) : Calls Try.prog 15 #[.slice (some ⟨g, 0, none⟩) N N, .int .i64 (x : Int)] w (ret (.bool (isP (x : Int))) w) := by
  by_cases h2 : 2 ≤ x
  · rw [isP_nat (by omega) h2 (hf h2)]
    have q1 : (2 : Int) ≤ (x : Int) := by omega
    have q2 : (x : Int) < (N : Int) := by omega
    have q3 : (0 : Int) ≤ (x : Int) := by omega
    have q4 : ((x : Int)).toNat = x := by omega
    obtain ⟨b, hb⟩ : ∃ b, b = f x := ⟨_, rfl⟩
    rw [← hb] at hc ⊢
    clear hf hb hN
    go_enter Try.func15, Try.ntmps15
    go_wp2_with fail
    go_ret
    exact ⟨rfl, Below.refl _ _⟩
  · have q1 : ¬ (2 : Int) ≤ (x : Int) := by omega
    have e : isP (x : Int) = false := by unfold isP; rw [decide_eq_false q1, Bool.false_and]
    rw [e]
    clear hf hc e hN
    go_enter Try.func15, Try.ntmps15
    go_wp2_with fail
    go_ret
    exact ⟨rfl, Below.refl _ _⟩
theorem rsz_any {g N : Nat} (x : Nat) (w : World) (hi : Calls Try.prog 15 #[.slice (some ⟨g, 0, none⟩) N N, .int .i64 (x : Int)] w (ret (.bool (isP (x : Int))) w)) : Calls Try.prog 16 #[.slice (some ⟨g, 0, none⟩) N N, .int .i64 (x : Int)] w (ret (.bool (szP (x : Int))) w) := by
  have HI := Lib.hid hi
  by_cases h7 : 7 ≤ x
  · have q1 : (7 : Int) ≤ (x : Int) := by omega
    by_cases h9 : x ≤ 65537
    · have q2 : (x : Int) ≤ 65537 := by omega
      have e : szP (x : Int) = isP (x : Int) := by unfold szP; rw [decide_eq_true q1, decide_eq_true q2, Bool.true_and, Bool.true_and]
      rw [e]
      obtain ⟨b, hb⟩ : ∃ b, b = isP (x : Int) := ⟨_, rfl⟩
      rw [← hb] at HI ⊢
      clear hi hb e
      go_enter Try.func16, Try.ntmps16
      go_wp2_with (first
        | (go_at_call 15
           refine HI.out.mono ?_
           rintro e u1 ⟨rfl, hb⟩
           have HB1 := Lib.hid hb
           clear hb))
      go_ret
      exact ⟨rfl, HB1.out⟩
    · have q2 : ¬ (x : Int) ≤ 65537 := by omega
      have e : szP (x : Int) = false := by unfold szP; rw [decide_eq_false q2, Bool.false_and, Bool.and_false]
      rw [e]
      clear hi e
      go_enter Try.func16, Try.ntmps16
      go_wp2_with fail
      go_ret
      exact ⟨rfl, Below.refl _ _⟩
  · have q1 : ¬ (7 : Int) ≤ (x : Int) := by omega
    have e : szP (x : Int) = false := by unfold szP; rw [decide_eq_false q1, Bool.false_and]
    rw [e]
    clear hi e
    go_enter Try.func16, Try.ntmps16
    go_wp2_with fail
    go_ret
    exact ⟨rfl, Below.refl _ _⟩
set_option maxHeartbeats 2000000 in
theorem mall_any (HP : PmP) (i : Int) (w : World) : Calls Try.prog 4 #[.int .i64 i] w (ret (.bool true) w) := by
  have HK := Lib.hid fun W => mknown_any HP W
  have HI := Lib.hid fun x W => HP.is_ x W
  have HS := Lib.hid fun x W => HP.size x W
  have HB0 : Hid (Below w.heap.size w w) := Lib.hid (Below.refl _ _)
  clear HP
  by_cases h0 : i < 0
  · go_enter Try.func4, Try.ntmps4
    go_wp2_with (first
      | (go_at_call 13
         refine (HK.out _).mono ?_
         rintro e u1 ⟨rfl, hb⟩
         have HB1 := Lib.hid hb
         clear hb))
    go_ret
    exact ⟨rfl, HB1.out⟩
  by_cases h9 : 3000 < i
  · go_enter Try.func4, Try.ntmps4
    go_wp2_with (first
      | (go_at_call 13
         refine (HK.out _).mono ?_
         rintro e u1 ⟨rfl, hb⟩
         have HB1 := Lib.hid hb
         clear hb))
    go_ret
    exact ⟨rfl, HB1.out⟩
  obtain ⟨n, rfl⟩ := Int.eq_ofNat_of_zero_le (show 0 ≤ i by omega)
  have hn : n ≤ 3000 := by omega
  have HST := Lib.hid (rstruck_any n hn w)
  obtain ⟨N, hN⟩ : ∃ N, N = n + 1 := ⟨_, rfl⟩
  rw [← hN] at HST
  have HNn := Lib.hid hN
  have zN : IntKind.i64.wrap ((n : Int) + 1) = (N : Int) := by rw [IntKind.wrap_i64]; omega
  clear hN
  go_enter Try.func4, Try.ntmps4
  go_wp2_with (first
    | (go_at_call 14
       refine HST.out.mono ?_
       rintro e u1 ⟨g, f, rfl, ho, hf, hb⟩
       have HB1 := Lib.hid hb
       have HO := Lib.hid ho
       have HF := Lib.hid hf
       clear ho hf hb))
  clear zN
  go_loopw [16] (fun vx wr => ∃ x : Nat, x ≤ N ∧ vx = .int .i64 (x : Int) ∧ Below u1.heap.size u1 wr) (fun vx _ => N - (intOf vx).toNat)
  case atStart => exact ⟨0, Nat.zero_le _, rfl, Below.refl _ _⟩
  case round =>
    obtain ⟨x, hx, rfl, hb⟩ := hrel
    have HBu := Lib.hid hb
    have HBr := Lib.hid (HB1.out.trans (hb.mono HB1.out.size))
    by_cases hlt : x < N
    · have l1 : (x : Int) < (N : Int) := by omega
      have zx : IntKind.i64.wrap ((x : Int) + 1) = (x : Int) + 1 := by rw [IntKind.wrap_i64]; have := HNn.out; omega
      have HIX := Lib.hid fun W => HI.out (x : Int) W
      have HSX := Lib.hid fun W => HS.out (x : Int) W
      have HRI : Hid (∀ W, Below u1.heap.size u1 W → Calls Try.prog 15 #[.slice (some ⟨g, 0, none⟩) N N, .int .i64 (x : Int)] W (ret (.bool (isP (x : Int))) W)) := Lib.hid fun W hW => by
        refine ris_any (f := f) hn HNn.out x (by have := HNn.out; omega) W ?_ fun h2 => HF.out x h2 (by have := HNn.out; omega)
        have ho := HO.out.below (w' := W) (hW.mono (Nat.le_refl _))
        obtain ⟨g', e, _, _, hc, _⟩ := ho.lies (by omega)
        injection e with e
        injection e with e
        rw [e]
        exact hc x (by omega)
      have HRS : Hid (∀ W, Below u1.heap.size u1 W → Calls Try.prog 16 #[.slice (some ⟨g, 0, none⟩) N N, .int .i64 (x : Int)] W (ret (.bool (szP (x : Int))) W)) := Lib.hid fun W hW => rsz_any x W (HRI.out W hW)
      obtain ⟨a, ha⟩ : ∃ a, a = isP (x : Int) := ⟨_, rfl⟩
      obtain ⟨c, hc⟩ : ∃ c, c = szP (x : Int) := ⟨_, rfl⟩
      rw [← ha] at HIX HRI
      rw [← hc] at HSX HRS
      have ea : (a != a) = false := by simp
      have ec : (c != c) = false := by simp
      clear hb ha hc
      go_wp2_with (first
        | (go_at_call 9
           refine (HIX.out _).mono ?_
           rintro e v1 ⟨rfl, hb⟩
           have HC1 := Lib.hid (HBu.out.trans (hb.mono HBu.out.size))
           clear hb)
        | (go_at_call 15
           refine (HRI.out _ HC1.out).mono ?_
           rintro e v2 ⟨rfl, hb⟩
           have HC2 := Lib.hid (HC1.out.trans (hb.mono HC1.out.size))
           clear hb)
        | (go_at_call 10
           refine (HSX.out _).mono ?_
           rintro e v3 ⟨rfl, hb⟩
           have HC3 := Lib.hid (HC2.out.trans (hb.mono HC2.out.size))
           clear hb)
        | (go_at_call 16
           refine (HRS.out _ HC3.out).mono ?_
           rintro e v4 ⟨rfl, hb⟩
           have HC4 := Lib.hid (HC3.out.trans (hb.mono HC3.out.size))
           clear hb))
      go_roundw
      case rel => exact ⟨x + 1, by omega, by go_num, HC4.out⟩
      case measure => simp [intOf]; omega
    · have l1 : ¬ (x : Int) < (N : Int) := by omega
      clear hb
      go_wp2_with (first
        | (go_at_call 13
           refine (HK.out _).mono ?_
           rintro e v9 ⟨rfl, hb⟩
           have HB9 := Lib.hid (HBr.out.trans (hb.mono HBr.out.size))
           clear hb))
      go_ret
      exact ⟨rfl, HB9.out⟩
end Go.Proofs.Ytkifcolaboalgaa
