/- Stage 15: the document's First, Next, MayTimeouts, Ticks. -/
import Derived.Test.YtpdomapkagicaaaFsa
import Derived.Test.YtpdomapkagicaaaGen
namespace Go.Proofs.Ytpdomapkagicaaa
set_option maxRecDepth 100000
open Go.RowKit Go.Shelf
theorem hasI (f b : Nat) : ((f : Int) / (b : Int) % 2 == 1) = hasF f b := by
  unfold hasF
  rw [Bool.eq_iff_iff, beq_iff_eq, beq_iff_eq]
  omega
theorem frmay_any (f : Nat) (h : f < 256) (w : World) : Calls Try.prog 17 #[.int .u8 (f : Int)] w (ret (.bool (mayFl f)) w) := by
  have h1 := hasI f 1
  have h2 := hasI f 2
  have h4 := hasI f 4
  have h16 := hasI f 16
  obtain ⟨x, hx⟩ : ∃ x : Int, x = (f : Int) := ⟨_, rfl⟩
  have hx0 : 0 ≤ x ∧ x ≤ 255 := by omega
  obtain ⟨m, hm⟩ : ∃ m, m = mayFl f := ⟨_, rfl⟩
  unfold mayFl at hm
  rw [← h1, ← h2, ← h4, ← h16] at hm
  rw [← hx] at hm ⊢
  have e1 : x / ((1 : Nat) : Int) = x := by omega
  rw [e1] at hm
  have hm : m = (!((x / 2 % 2 == 1) && (x % 2 == 1)) && !((x / 2 % 2 == 1) && (x / 4 % 2 == 1)) && ((x / 2 % 2 == 1) || (x % 2 == 1) || (x / 4 % 2 == 1) || (x / 16 % 2 == 1))) := hm
  have HF : Hid (mayFl f = m) := Lib.hid (by rw [hm, hx]; unfold mayFl; rw [← h1, ← h2, ← h4, ← h16, show (f : Int) / ((1 : Nat) : Int) = (f : Int) by omega]; rfl)
  rw [HF.out]
  clear h1 h2 h4 h16 hx h e1 HF
  have t0 : x.tmod 2 = x % 2 := Int.tmod_eq_emod_of_nonneg hx0.1
  have t1 : x.tdiv 2 = x / 2 := Int.tdiv_eq_ediv_of_nonneg hx0.1
  have t2 : x.tdiv 4 = x / 4 := Int.tdiv_eq_ediv_of_nonneg hx0.1
  have t3 : x.tdiv 16 = x / 16 := Int.tdiv_eq_ediv_of_nonneg hx0.1
  have s1 : (x / 2).tmod 2 = x / 2 % 2 := Int.tmod_eq_emod_of_nonneg (by omega)
  have s2 : (x / 4).tmod 2 = x / 4 % 2 := Int.tmod_eq_emod_of_nonneg (by omega)
  have s3 : (x / 16).tmod 2 = x / 16 % 2 := Int.tmod_eq_emod_of_nonneg (by omega)
  have z1 : IntKind.u8.wrap (x % 2) = x % 2 := by rw [IntKind.wrap_u8']; omega
  have z2 : IntKind.u8.wrap (x / 2 % 2) = x / 2 % 2 := by rw [IntKind.wrap_u8']; omega
  have z3 : IntKind.u8.wrap (x / 4 % 2) = x / 4 % 2 := by rw [IntKind.wrap_u8']; omega
  have z4 : IntKind.u8.wrap (x / 16 % 2) = x / 16 % 2 := by rw [IntKind.wrap_u8']; omega
  have y2 : IntKind.u8.wrap (x / 2) = x / 2 := by rw [IntKind.wrap_u8']; omega
  have y3 : IntKind.u8.wrap (x / 4) = x / 4 := by rw [IntKind.wrap_u8']; omega
  have y4 : IntKind.u8.wrap (x / 16) = x / 16 := by rw [IntKind.wrap_u8']; omega
  clear hx0
  cases b1 : (x % 2 == 1) <;> cases b2 : (x / 2 % 2 == 1) <;> cases b3 : (x / 4 % 2 == 1) <;> cases b4 : (x / 16 % 2 == 1)
  all_goals
    rw [b1, b2, b3, b4] at hm
    have hm' : m = _ := hm.trans rfl
    clear hm
    subst hm'
    go_enter Try.func17, Try.ntmps17
    go_wp2
    go_ret
    exact ⟨rfl, Below.refl _ _⟩
theorem rhas_any (f b : Nat) (h : f < 256) (hb : b = 1 ∨ b = 2 ∨ b = 4 ∨ b = 16) (w : World) : Calls Try.prog 18 #[.int .u8 (f : Int), .int .u8 (b : Int)] w (ret (.bool (hasF f b)) w) := by
  have hh := hasI f b
  obtain ⟨q, hq⟩ : ∃ q, q = f / b := ⟨_, rfl⟩
  have hq' : (f : Int) / (b : Int) = (q : Int) := by rw [hq, Int.natCast_ediv]
  have hq9 : q ≤ 255 := by rw [hq]; exact Nat.le_trans (Nat.div_le_self _ _) (by omega)
  have t1 : (f : Int).tdiv (b : Int) = (q : Int) := by rw [Int.tdiv_eq_ediv_of_nonneg (by omega), hq']
  have y1 : IntKind.u8.wrap (q : Int) = (q : Int) := by rw [IntKind.wrap_u8']; omega
  have y2 : IntKind.u8.wrap ((q : Int) % 2) = (q : Int) % 2 := by rw [IntKind.wrap_u8']; omega
  have t2 : (q : Int).tmod 2 = (q : Int) % 2 := Int.tmod_eq_emod_of_nonneg (by omega)
  have b0 : ¬ (b : Int) = 0 := by omega
  rw [hq'] at hh
  rw [← hh]
  clear hh hq hb h
  go_enter Try.func18, Try.ntmps18
  go_wp2_with fail
  go_ret
  exact ⟨rfl, Below.refl _ _⟩
set_option maxHeartbeats 2000000 in
theorem rfirst_any (p f : Nat) (w : World) (hp : p < 256) (hf : f < 256) : Calls Try.prog 6 #[.int .u8 (p : Int), .int .u8 (f : Int)] w (ret (.tuple #[.int .u8 ((fsF p f).1 : Int), .bool (fsF p f).2]) w) := by
  have HMY : Hid (∀ W : World, Calls Try.prog 17 #[.int .u8 (f : Int)] W (ret (.bool (mayFl f)) W)) := Lib.hid fun W => frmay_any f hf W
  have HH1 : Hid (∀ W : World, Calls Try.prog 18 #[.int .u8 (f : Int), .int .u8 1] W (ret (.bool (hasF f 1)) W)) := Lib.hid fun W => rhas_any f 1 hf (by omega) W
  have HH2 : Hid (∀ W : World, Calls Try.prog 18 #[.int .u8 (f : Int), .int .u8 2] W (ret (.bool (hasF f 2)) W)) := Lib.hid fun W => rhas_any f 2 hf (by omega) W
  have HH4 : Hid (∀ W : World, Calls Try.prog 18 #[.int .u8 (f : Int), .int .u8 4] W (ret (.bool (hasF f 4)) W)) := Lib.hid fun W => rhas_any f 4 hf (by omega) W
  have HB0 : Hid (Below w.heap.size w w) := Lib.hid (Below.refl _ _)
  obtain ⟨r, hr⟩ : ∃ r, r = fsF p f := ⟨_, rfl⟩
  rw [← hr]
  unfold fsF at hr
  by_cases e17 : p = 17
  · rw [if_pos e17] at hr
    subst hr
    have q17 : ((p : Int) == 17) = true := by simp; omega
    clear e17
    go_enter Try.func6, Try.ntmps6
    go_wp2_with fail
    go_ret2
    exact ⟨rfl, Below.refl _ _⟩
  · rw [if_neg e17] at hr
    have q17 : ((p : Int) == 17) = false := by simp; omega
    clear e17
    by_cases e6 : p = 6
    · rw [if_neg (not_not_intro e6)] at hr
      have q6 : ((p : Int) != 6) = false := by simp; omega
      clear e6
      cases em : mayFl f with
      | false =>
        rw [em] at HMY
        rw [if_pos em] at hr
        clear em
        subst hr
        go_enter Try.func6, Try.ntmps6
        go_wp2_with (first
          | (go_at_call 17
             with_reducible refine (HMY.out _).mono ?_
             rintro e u1 ⟨rfl, hb⟩
             have HB1 := Lib.hid (HB0.out.trans (hb.mono HB0.out.size))
             clear hb))
        go_ret2
        exact ⟨rfl, HB1.out⟩
      | true =>
        rw [em] at HMY
        rw [if_neg (by rw [em]; decide)] at hr
        clear em
        cases e4 : hasF f 4 with
        | true =>
          rw [e4] at HH4
          rw [if_pos e4] at hr
          clear e4
          subst hr
          go_enter Try.func6, Try.ntmps6
          go_wp2_with (first
            | (go_at_call 17
               with_reducible refine (HMY.out _).mono ?_
               rintro e u1 ⟨rfl, hb⟩
               have HB1 := Lib.hid (HB0.out.trans (hb.mono HB0.out.size))
               clear hb)
            | (go_at_call 18
               with_reducible refine (HH4.out _).mono ?_
               rintro e u2 ⟨rfl, hb⟩
               have HB2 := Lib.hid (HB1.out.trans (hb.mono HB1.out.size))
               clear hb))
          go_ret2
          exact ⟨rfl, HB2.out⟩
        | false =>
          rw [e4] at HH4
          rw [if_neg (by rw [e4]; exact Bool.false_ne_true)] at hr
          clear e4
          cases e1 : hasF f 1 with
          | true =>
            rw [e1] at HH1
            rw [if_pos e1] at hr
            clear e1
            subst hr
            go_enter Try.func6, Try.ntmps6
            go_wp2_with (first
              | (go_at_call 17
                 with_reducible refine (HMY.out _).mono ?_
                 rintro e u1 ⟨rfl, hb⟩
                 have HB1 := Lib.hid (HB0.out.trans (hb.mono HB0.out.size))
                 clear hb)
              | (go_at_call 18
                 with_reducible refine (HH4.out _).mono ?_
                 rintro e u2 ⟨rfl, hb⟩
                 have HB2 := Lib.hid (HB1.out.trans (hb.mono HB1.out.size))
                 clear hb)
              | (go_at_call 18
                 with_reducible refine (HH1.out _).mono ?_
                 rintro e u3 ⟨rfl, hb⟩
                 have HB3 := Lib.hid (HB2.out.trans (hb.mono HB2.out.size))
                 clear hb))
            go_ret2
            exact ⟨rfl, HB3.out⟩
          | false =>
            rw [e1] at HH1
            rw [if_neg (by rw [e1]; exact Bool.false_ne_true)] at hr
            clear e1
            cases e2 : hasF f 2 with
            | true =>
              rw [e2] at HH2
              rw [if_pos e2] at hr
              clear e2
              subst hr
              go_enter Try.func6, Try.ntmps6
              go_wp2_with (first
                | (go_at_call 17
                   with_reducible refine (HMY.out _).mono ?_
                   rintro e u1 ⟨rfl, hb⟩
                   have HB1 := Lib.hid (HB0.out.trans (hb.mono HB0.out.size))
                   clear hb)
                | (go_at_call 18
                   with_reducible refine (HH4.out _).mono ?_
                   rintro e u2 ⟨rfl, hb⟩
                   have HB2 := Lib.hid (HB1.out.trans (hb.mono HB1.out.size))
                   clear hb)
                | (go_at_call 18
                   with_reducible refine (HH1.out _).mono ?_
                   rintro e u3 ⟨rfl, hb⟩
                   have HB3 := Lib.hid (HB2.out.trans (hb.mono HB2.out.size))
                   clear hb)
                | (go_at_call 18
                   with_reducible refine (HH2.out _).mono ?_
                   rintro e u4 ⟨rfl, hb⟩
                   have HB4 := Lib.hid (HB3.out.trans (hb.mono HB3.out.size))
                   clear hb))
              go_ret2
              exact ⟨rfl, HB4.out⟩
            | false =>
              rw [e2] at HH2
              rw [if_neg (by rw [e2]; exact Bool.false_ne_true)] at hr
              clear e2
              subst hr
              go_enter Try.func6, Try.ntmps6
              go_wp2_with (first
                | (go_at_call 17
                   with_reducible refine (HMY.out _).mono ?_
                   rintro e u1 ⟨rfl, hb⟩
                   have HB1 := Lib.hid (HB0.out.trans (hb.mono HB0.out.size))
                   clear hb)
                | (go_at_call 18
                   with_reducible refine (HH4.out _).mono ?_
                   rintro e u2 ⟨rfl, hb⟩
                   have HB2 := Lib.hid (HB1.out.trans (hb.mono HB1.out.size))
                   clear hb)
                | (go_at_call 18
                   with_reducible refine (HH1.out _).mono ?_
                   rintro e u3 ⟨rfl, hb⟩
                   have HB3 := Lib.hid (HB2.out.trans (hb.mono HB2.out.size))
                   clear hb)
                | (go_at_call 18
                   with_reducible refine (HH2.out _).mono ?_
                   rintro e u4 ⟨rfl, hb⟩
                   have HB4 := Lib.hid (HB3.out.trans (hb.mono HB3.out.size))
                   clear hb))
              go_ret2
              exact ⟨rfl, HB4.out⟩
    · rw [if_pos e6] at hr
      subst hr
      have q6 : ((p : Int) != 6) = true := by simp; omega
      clear e6
      go_enter Try.func6, Try.ntmps6
      go_wp2_with fail
      go_ret2
      exact ⟨rfl, Below.refl _ _⟩
theorem rlines_any (w : World) : Calls Try.prog 19 #[] w fun e w' => ∃ g, e = .returned (.slice (some ⟨g, 0, none⟩) 5 5) ∧ w'.heap[g]? = some (.cells #[.int .u8 4, .int .u8 2, .int .u8 16, .int .u8 3, .int .u8 2, .int .u8 0, .int .u8 4, .int .u8 0, .int .u8 2, .int .u8 0, .int .u8 0, .int .u8 1, .int .u8 0, .int .u8 1, .int .u8 4, .int .u8 2, .int .u8 16, .int .u8 2, .int .u8 1, .int .u8 3, .int .u8 0, .int .u8 0, .int .u8 0, .int .u8 1, .int .u8 0] 42 (0, 0)) ∧ Below w.heap.size w w' := by
  go_enter Try.func19, Try.ntmps19
  go_wp2_with fail
  go_ret
  exact ⟨_, rfl, heap_alloc_new w _, below_alloc w _⟩
def fit (s f i : Nat) : Bool := match i with
  | 0 => s == 4 && hasF f 2 && !hasF f 16
  | 1 => hasF f 4
  | 2 => hasF f 1
  | 3 => s == 2 && hasF f 16 && !hasF f 2
  | _ => true
def frs (s i : Nat) : Nat × Nat × Int := match i with
  | 0 => (3, 2, 0)
  | 1 => (2, s, 0)
  | 2 => (1, 4, 0)
  | 3 => (1, 3, 0)
  | _ => (1, s, 0)
theorem fsN_fit {s f i : Nat} (hi : i < 5) (h1 : ¬ s = 1) (h2 : ¬ (s < 1 ∨ 4 < s)) (hm : mayFl f = true) (hb : ∀ j, j < i → fit s f j = false) (ht : fit s f i = true) : fsN s f = frs s i := by
  unfold fsN
  rw [if_neg h1, if_neg h2, if_neg (by rw [hm]; decide)]
  have c0 : 0 < i → (s == 4 && hasF f 2 && !hasF f 16) = false := fun h => hb 0 h
  have c1 : 1 < i → hasF f 4 = false := fun h => hb 1 h
  have c2 : 2 < i → hasF f 1 = false := fun h => hb 2 h
  have c3 : 3 < i → (s == 2 && hasF f 16 && !hasF f 2) = false := fun h => hb 3 h
  rcases (show i = 0 ∨ i = 1 ∨ i = 2 ∨ i = 3 ∨ i = 4 by omega) with rfl | rfl | rfl | rfl | rfl
  · rw [if_pos (show (s == 4 && hasF f 2 && !hasF f 16) = true from ht)]
    rfl
  · rw [if_neg (by rw [c0 (by omega)]; decide), if_pos (show hasF f 4 = true from ht)]
    rfl
  · rw [if_neg (by rw [c0 (by omega)]; decide), if_neg (by rw [c1 (by omega)]; decide), if_pos (show hasF f 1 = true from ht)]
    rfl
  · rw [if_neg (by rw [c0 (by omega)]; decide), if_neg (by rw [c1 (by omega)]; decide), if_neg (by rw [c2 (by omega)]; decide), if_pos (show (s == 2 && hasF f 16 && !hasF f 2) = true from ht)]
    rfl
  · rw [if_neg (by rw [c0 (by omega)]; decide), if_neg (by rw [c1 (by omega)]; decide), if_neg (by rw [c2 (by omega)]; decide), if_neg (by rw [c3 (by omega)]; decide)]
    rfl
set_option maxHeartbeats 8000000 in
theorem rnext_any (s f : Nat) (w : World) (hs : s < 256) (hf : f < 256) : Calls Try.prog 8 #[.int .u8 (s : Int), .int .u8 (f : Int)] w (ret (.tuple #[.int .u8 ((fsN s f).1 : Int), .int .u8 ((fsN s f).2.1 : Int), .int .i64 (fsN s f).2.2]) w) := by
  have HMY : Hid (∀ W : World, Calls Try.prog 17 #[.int .u8 (f : Int)] W (ret (.bool (mayFl f)) W)) := Lib.hid fun W => frmay_any f hf W
  have HH1 : Hid (∀ W : World, Calls Try.prog 18 #[.int .u8 (f : Int), .int .u8 1] W (ret (.bool (hasF f 1)) W)) := Lib.hid fun W => rhas_any f 1 hf (by omega) W
  have HH2 : Hid (∀ W : World, Calls Try.prog 18 #[.int .u8 (f : Int), .int .u8 2] W (ret (.bool (hasF f 2)) W)) := Lib.hid fun W => rhas_any f 2 hf (by omega) W
  have HH4 : Hid (∀ W : World, Calls Try.prog 18 #[.int .u8 (f : Int), .int .u8 4] W (ret (.bool (hasF f 4)) W)) := Lib.hid fun W => rhas_any f 4 hf (by omega) W
  have HH16 : Hid (∀ W : World, Calls Try.prog 18 #[.int .u8 (f : Int), .int .u8 16] W (ret (.bool (hasF f 16)) W)) := Lib.hid fun W => rhas_any f 16 hf (by omega) W
  have HLN := Lib.hid fun W => rlines_any W
  have HV : Hid (∀ r, fsN s f = r → ∀ w', Below w.heap.size w w' → ret (.tuple #[.int .u8 (r.1 : Int), .int .u8 (r.2.1 : Int), .int .i64 r.2.2]) w (.returned (.tuple #[.int .u8 ((fsN s f).1 : Int), .int .u8 ((fsN s f).2.1 : Int), .int .i64 (fsN s f).2.2])) w') := Lib.hid fun r h w' hb => by
    rw [h]
    exact ⟨rfl, hb⟩
  by_cases e1 : s = 1
  · have q1 : ((s : Int) == 1) = true := by simp; omega
    have HFS : Hid (fsN s f = (1, 1, 0)) := Lib.hid (by unfold fsN; rw [if_pos e1])
    clear e1
    go_enter Try.func8, Try.ntmps8
    go_wp2_with fail
    go_ret3
    exact ⟨by rw [HFS.out]; rfl, Below.refl _ _⟩
  · have q1 : ((s : Int) == 1) = false := by simp; omega
    by_cases e2 : s < 1 ∨ 4 < s
    · have HFS : Hid (fsN s f = (0, 0, 2)) := Lib.hid (by unfold fsN; rw [if_neg e1, if_pos e2])
      clear e1
      rcases e2 with e2 | e2
      · have q2 : (s : Int) < 1 := by omega
        clear e2
        go_enter Try.func8, Try.ntmps8
        go_wp2_with fail
        go_ret3
        exact ⟨by rw [HFS.out]; rfl, Below.refl _ _⟩
      · have q2 : ¬ (s : Int) < 1 := by omega
        have q3 : (4 : Int) < (s : Int) := by omega
        clear e2
        go_enter Try.func8, Try.ntmps8
        go_wp2_with fail
        go_ret3
        exact ⟨by rw [HFS.out]; rfl, Below.refl _ _⟩
    · have q2 : ¬ (s : Int) < 1 := by omega
      have q3 : ¬ (4 : Int) < (s : Int) := by omega
      cases em : mayFl f with
      | false =>
        have HFS : Hid (fsN s f = (0, 0, 2)) := Lib.hid (by unfold fsN; rw [if_neg e1, if_neg e2, if_pos em])
        rw [em] at HMY
        clear e1 e2 em
        go_enter Try.func8, Try.ntmps8
        go_wp2_with (first
          | (go_at_call 17
             refine (HMY.out _).mono ?_
             rintro e u1 ⟨rfl, hb⟩
             have HB1 := Lib.hid hb
             clear hb))
        go_ret3
        exact ⟨by rw [HFS.out]; rfl, HB1.out⟩
      | true =>
        have HS1 := Lib.hid e1
        have HS2 := Lib.hid e2
        have HM := Lib.hid em
        rw [em] at HMY
        clear e1 e2 em
        go_enter Try.func8, Try.ntmps8
        go_wp2_with (first
          | (go_at_call 17
             refine (HMY.out _).mono ?_
             rintro e u1 ⟨rfl, hb⟩
             have HB1 := Lib.hid hb
             clear hb)
          | (go_at_call 19
             refine (HLN.out _).mono ?_
             rintro e u2 ⟨g, rfl, hg, hb⟩
             have HB2 := Lib.hid (HB1.out.trans (hb.mono HB1.out.size))
             have HG := Lib.hid hg
             clear hg hb))
        go_loopw [8] (fun vi wr => ∃ i : Nat, i ≤ 4 ∧ vi = .int .i64 (i : Int) ∧ (∀ j, j < i → fit s f j = false) ∧ Below u2.heap.size u2 wr) (fun vi _ => 5 - (intOf vi).toNat)
        case atStart => exact ⟨0, Nat.zero_le _, rfl, fun j hj => absurd hj (Nat.not_lt_zero _), Below.refl _ _⟩
        case round =>
          obtain ⟨i, hi, rfl, hall, hb⟩ := hrel
          have HA := Lib.hid hall
          have HBu := Lib.hid hb
          have HBw := Lib.hid (HB2.out.trans (hb.mono HB2.out.size))
          have hgr := (hb.block g (lt_heap HG.out)).trans HG.out
          clear hall hb
          rcases (show i = 0 ∨ i = 1 ∨ i = 2 ∨ i = 3 ∨ i = 4 by omega) with rfl | rfl | rfl | rfl | rfl
          · have x0 := blk_cell hgr 0
            have x1 := blk_cell hgr 1
            have x2 := blk_cell hgr 2
            have x3 := blk_cell hgr 3
            have x4 := blk_cell hgr 4
            have hz : (wr.alloc (.cells #[.int .u8 4, .int .u8 2, .int .u8 16, .int .u8 3, .int .u8 2] 42)).heap[wr.heap.size]? = some (.cells #[.int .u8 4, .int .u8 2, .int .u8 16, .int .u8 3, .int .u8 2] 42 (0, 0)) := heap_alloc_new wr _
            have HBa : Hid (Below wr.heap.size wr (wr.alloc (.cells #[.int .u8 4, .int .u8 2, .int .u8 16, .int .u8 3, .int .u8 2] 42))) := Lib.hid (below_alloc wr _)
            have zz0 := blk_cell hz 0
            have zz1 := blk_cell hz 1
            have zz2 := blk_cell hz 2
            have zz3 := blk_cell hz 3
            have zz4 := blk_cell hz 4
            have HZ : Hid ((wr.alloc (.cells #[.int .u8 4, .int .u8 2, .int .u8 16, .int .u8 3, .int .u8 2] 42)).heap[wr.heap.size]? = some (.cells #[.int .u8 4, .int .u8 2, .int .u8 16, .int .u8 3, .int .u8 2] 42 (0, 0))) := Lib.hid hz
            clear hz hgr
            by_cases es : s = 4
            · have qs : ((4 : Int) == (s : Int)) = true := by simp; omega
              cases e2 : hasF f 2 with
              | true =>
                rw [e2] at HH2
                cases e16 : hasF f 16 with
                | true =>
                  rw [e16] at HH16
                  have HNF : Hid (∀ j, j < 1 → fit s f j = false) := Lib.hid fun j hj => by
                    rcases (show j < 0 ∨ j = 0 by omega) with r | rfl
                    · exact HA.out j r
                    · show fit s f 0 = false
                      unfold fit
                      simp [es, e2, e16]
                  clear es e2 e16
                  go_wp2_with (first
                    | (go_at_call 18
                       with_reducible refine (HH2.out _).mono ?_
                       rintro e v1 ⟨rfl, hb⟩
                       have HBh1 := Lib.hid (HBa.out.trans (hb.mono HBa.out.size))
                       have HZh1 : Hid (v1.heap[wr.heap.size]? = some (.cells #[.int .u8 4, .int .u8 2, .int .u8 16, .int .u8 3, .int .u8 2] 42 (0, 0))) := Lib.hid ((hb.block _ (lt_heap HZ.out)).trans HZ.out)
                       have z11 := blk_cell HZh1.out 1
                       have z12 := blk_cell HZh1.out 2
                       have z13 := blk_cell HZh1.out 3
                       have z14 := blk_cell HZh1.out 4
                       clear hb)
                    | (go_at_call 18
                       with_reducible refine (HH16.out _).mono ?_
                       rintro e v2 ⟨rfl, hb⟩
                       have HBh2 := Lib.hid (HBh1.out.trans (hb.mono HBh1.out.size))
                       have HZh2 : Hid (v2.heap[wr.heap.size]? = some (.cells #[.int .u8 4, .int .u8 2, .int .u8 16, .int .u8 3, .int .u8 2] 42 (0, 0))) := Lib.hid ((hb.block _ (lt_heap HZh1.out)).trans HZh1.out)
                       have z21 := blk_cell HZh2.out 1
                       have z22 := blk_cell HZh2.out 2
                       have z23 := blk_cell HZh2.out 3
                       have z24 := blk_cell HZh2.out 4
                       clear hb))
                  go_roundw
                  case rel => exact ⟨1, by omega, by go_num, HNF.out, HBu.out.trans (HBh2.out.mono HBu.out.size)⟩
                  case measure => simp [intOf]
                | false =>
                  rw [e16] at HH16
                  have HFS : Hid (fsN s f = frs s 0) := Lib.hid (fsN_fit (by omega) HS1.out HS2.out HM.out HA.out (by unfold fit; simp [es, e2, e16]))
                  clear es e2 e16
                  go_wp2_with (first
                    | (go_at_call 18
                       with_reducible refine (HH2.out _).mono ?_
                       rintro e v1 ⟨rfl, hb⟩
                       have HBh1 := Lib.hid (HBa.out.trans (hb.mono HBa.out.size))
                       have HZh1 : Hid (v1.heap[wr.heap.size]? = some (.cells #[.int .u8 4, .int .u8 2, .int .u8 16, .int .u8 3, .int .u8 2] 42 (0, 0))) := Lib.hid ((hb.block _ (lt_heap HZ.out)).trans HZ.out)
                       have z11 := blk_cell HZh1.out 1
                       have z12 := blk_cell HZh1.out 2
                       have z13 := blk_cell HZh1.out 3
                       have z14 := blk_cell HZh1.out 4
                       clear hb)
                    | (go_at_call 18
                       with_reducible refine (HH16.out _).mono ?_
                       rintro e v2 ⟨rfl, hb⟩
                       have HBh2 := Lib.hid (HBh1.out.trans (hb.mono HBh1.out.size))
                       have HZh2 : Hid (v2.heap[wr.heap.size]? = some (.cells #[.int .u8 4, .int .u8 2, .int .u8 16, .int .u8 3, .int .u8 2] 42 (0, 0))) := Lib.hid ((hb.block _ (lt_heap HZh1.out)).trans HZh1.out)
                       have z21 := blk_cell HZh2.out 1
                       have z22 := blk_cell HZh2.out 2
                       have z23 := blk_cell HZh2.out 3
                       have z24 := blk_cell HZh2.out 4
                       clear hb))
                  have Y3 : ∀ W : Stay v2, W.w.cell? ⟨wr.heap.size, 3, none⟩ = some (.int .u8 3) := fun W => Stay.cell z23 W
                  have Y4 : ∀ W : Stay v2, W.w.cell? ⟨wr.heap.size, 4, none⟩ = some (.int .u8 2) := fun W => Stay.cell z24 W
                  clear zz0 zz1 zz2 zz3 zz4 z11 z12 z13 z14 z21 z22 z23 z24
                  refine wp_region_stay (by kernel_rfl) (by kernel_rfl) ?_
                  repeat (go_big_quiet_step (fail))
                  refine wpQuiet_nil ?_
                  intro w' hw'
                  obtain ⟨W, rfl⟩ := hw'
                  go_wp2_with fail
                  go_ret3
                  exact ⟨by rw [HFS.out]; rfl, HBw.out.trans ((HBh2.out.trans (W.below.mono HBh2.out.size)).mono HBw.out.size)⟩
              | false =>
                rw [e2] at HH2
                have HNF : Hid (∀ j, j < 1 → fit s f j = false) := Lib.hid fun j hj => by
                  rcases (show j < 0 ∨ j = 0 by omega) with r | rfl
                  · exact HA.out j r
                  · show fit s f 0 = false
                    unfold fit
                    simp [es, e2]
                clear es e2
                go_wp2_with (first
                  | (go_at_call 18
                     with_reducible refine (HH2.out _).mono ?_
                     rintro e v1 ⟨rfl, hb⟩
                     have HBh1 := Lib.hid (HBa.out.trans (hb.mono HBa.out.size))
                     have HZh1 : Hid (v1.heap[wr.heap.size]? = some (.cells #[.int .u8 4, .int .u8 2, .int .u8 16, .int .u8 3, .int .u8 2] 42 (0, 0))) := Lib.hid ((hb.block _ (lt_heap HZ.out)).trans HZ.out)
                     have z11 := blk_cell HZh1.out 1
                     have z12 := blk_cell HZh1.out 2
                     have z13 := blk_cell HZh1.out 3
                     have z14 := blk_cell HZh1.out 4
                     clear hb))
                go_roundw
                case rel => exact ⟨1, by omega, by go_num, HNF.out, HBu.out.trans (HBh1.out.mono HBu.out.size)⟩
                case measure => simp [intOf]
            · have qs : ((4 : Int) == (s : Int)) = false := by simp; omega
              have HNF : Hid (∀ j, j < 1 → fit s f j = false) := Lib.hid fun j hj => by
                rcases (show j < 0 ∨ j = 0 by omega) with r | rfl
                · exact HA.out j r
                · show fit s f 0 = false
                  unfold fit
                  simp [es]
              clear es
              go_wp2_with fail
              go_roundw
              case rel => exact ⟨1, by omega, by go_num, HNF.out, HBu.out.trans (HBa.out.mono HBu.out.size)⟩
              case measure => simp [intOf]
          · have x0 := blk_cell hgr 5
            have x1 := blk_cell hgr 6
            have x2 := blk_cell hgr 7
            have x3 := blk_cell hgr 8
            have x4 := blk_cell hgr 9
            have hz : (wr.alloc (.cells #[.int .u8 0, .int .u8 4, .int .u8 0, .int .u8 2, .int .u8 0] 42)).heap[wr.heap.size]? = some (.cells #[.int .u8 0, .int .u8 4, .int .u8 0, .int .u8 2, .int .u8 0] 42 (0, 0)) := heap_alloc_new wr _
            have HBa : Hid (Below wr.heap.size wr (wr.alloc (.cells #[.int .u8 0, .int .u8 4, .int .u8 0, .int .u8 2, .int .u8 0] 42))) := Lib.hid (below_alloc wr _)
            have zz0 := blk_cell hz 0
            have zz1 := blk_cell hz 1
            have zz2 := blk_cell hz 2
            have zz3 := blk_cell hz 3
            have zz4 := blk_cell hz 4
            have HZ : Hid ((wr.alloc (.cells #[.int .u8 0, .int .u8 4, .int .u8 0, .int .u8 2, .int .u8 0] 42)).heap[wr.heap.size]? = some (.cells #[.int .u8 0, .int .u8 4, .int .u8 0, .int .u8 2, .int .u8 0] 42 (0, 0))) := Lib.hid hz
            clear hz hgr
            cases e4 : hasF f 4 with
            | true =>
              rw [e4] at HH4
              have HFS : Hid (fsN s f = frs s 1) := Lib.hid (fsN_fit (by omega) HS1.out HS2.out HM.out HA.out (by unfold fit; simp [e4]))
              clear e4
              go_wp2_with (first
                | (go_at_call 18
                   with_reducible refine (HH4.out _).mono ?_
                   rintro e v1 ⟨rfl, hb⟩
                   have HBh1 := Lib.hid (HBa.out.trans (hb.mono HBa.out.size))
                   have HZh1 : Hid (v1.heap[wr.heap.size]? = some (.cells #[.int .u8 0, .int .u8 4, .int .u8 0, .int .u8 2, .int .u8 0] 42 (0, 0))) := Lib.hid ((hb.block _ (lt_heap HZ.out)).trans HZ.out)
                   have z11 := blk_cell HZh1.out 1
                   have z12 := blk_cell HZh1.out 2
                   have z13 := blk_cell HZh1.out 3
                   have z14 := blk_cell HZh1.out 4
                   clear hb))
              go_ret3
              exact ⟨by rw [HFS.out]; rfl, HBw.out.trans (HBh1.out.mono HBw.out.size)⟩
            | false =>
              rw [e4] at HH4
              have HNF : Hid (∀ j, j < 2 → fit s f j = false) := Lib.hid fun j hj => by
                rcases (show j < 1 ∨ j = 1 by omega) with r | rfl
                · exact HA.out j r
                · show fit s f 1 = false
                  unfold fit
                  simp [e4]
              clear e4
              go_wp2_with (first
                | (go_at_call 18
                   with_reducible refine (HH4.out _).mono ?_
                   rintro e v1 ⟨rfl, hb⟩
                   have HBh1 := Lib.hid (HBa.out.trans (hb.mono HBa.out.size))
                   have HZh1 : Hid (v1.heap[wr.heap.size]? = some (.cells #[.int .u8 0, .int .u8 4, .int .u8 0, .int .u8 2, .int .u8 0] 42 (0, 0))) := Lib.hid ((hb.block _ (lt_heap HZ.out)).trans HZ.out)
                   have z11 := blk_cell HZh1.out 1
                   have z12 := blk_cell HZh1.out 2
                   have z13 := blk_cell HZh1.out 3
                   have z14 := blk_cell HZh1.out 4
                   clear hb))
              go_roundw
              case rel => exact ⟨2, by omega, by go_num, HNF.out, HBu.out.trans (HBh1.out.mono HBu.out.size)⟩
              case measure => simp [intOf]
          · have x0 := blk_cell hgr 10
            have x1 := blk_cell hgr 11
            have x2 := blk_cell hgr 12
            have x3 := blk_cell hgr 13
            have x4 := blk_cell hgr 14
            have hz : (wr.alloc (.cells #[.int .u8 0, .int .u8 1, .int .u8 0, .int .u8 1, .int .u8 4] 42)).heap[wr.heap.size]? = some (.cells #[.int .u8 0, .int .u8 1, .int .u8 0, .int .u8 1, .int .u8 4] 42 (0, 0)) := heap_alloc_new wr _
            have HBa : Hid (Below wr.heap.size wr (wr.alloc (.cells #[.int .u8 0, .int .u8 1, .int .u8 0, .int .u8 1, .int .u8 4] 42))) := Lib.hid (below_alloc wr _)
            have zz0 := blk_cell hz 0
            have zz1 := blk_cell hz 1
            have zz2 := blk_cell hz 2
            have zz3 := blk_cell hz 3
            have zz4 := blk_cell hz 4
            have HZ : Hid ((wr.alloc (.cells #[.int .u8 0, .int .u8 1, .int .u8 0, .int .u8 1, .int .u8 4] 42)).heap[wr.heap.size]? = some (.cells #[.int .u8 0, .int .u8 1, .int .u8 0, .int .u8 1, .int .u8 4] 42 (0, 0))) := Lib.hid hz
            clear hz hgr
            cases e1 : hasF f 1 with
            | true =>
              rw [e1] at HH1
              have HFS : Hid (fsN s f = frs s 2) := Lib.hid (fsN_fit (by omega) HS1.out HS2.out HM.out HA.out (by unfold fit; simp [e1]))
              clear e1
              go_wp2_with (first
                | (go_at_call 18
                   with_reducible refine (HH1.out _).mono ?_
                   rintro e v1 ⟨rfl, hb⟩
                   have HBh1 := Lib.hid (HBa.out.trans (hb.mono HBa.out.size))
                   have HZh1 : Hid (v1.heap[wr.heap.size]? = some (.cells #[.int .u8 0, .int .u8 1, .int .u8 0, .int .u8 1, .int .u8 4] 42 (0, 0))) := Lib.hid ((hb.block _ (lt_heap HZ.out)).trans HZ.out)
                   have z11 := blk_cell HZh1.out 1
                   have z12 := blk_cell HZh1.out 2
                   have z13 := blk_cell HZh1.out 3
                   have z14 := blk_cell HZh1.out 4
                   clear hb))
              have Y3 : ∀ W : Stay v1, W.w.cell? ⟨wr.heap.size, 3, none⟩ = some (.int .u8 1) := fun W => Stay.cell z13 W
              have Y4 : ∀ W : Stay v1, W.w.cell? ⟨wr.heap.size, 4, none⟩ = some (.int .u8 4) := fun W => Stay.cell z14 W
              clear zz0 zz1 zz2 zz3 zz4 z11 z12 z13 z14
              refine wp_region_stay (by kernel_rfl) (by kernel_rfl) ?_
              repeat (go_big_quiet_step (fail))
              refine wpQuiet_nil ?_
              intro w' hw'
              obtain ⟨W, rfl⟩ := hw'
              go_wp2_with fail
              go_ret3
              exact ⟨by rw [HFS.out]; rfl, HBw.out.trans ((HBh1.out.trans (W.below.mono HBh1.out.size)).mono HBw.out.size)⟩
            | false =>
              rw [e1] at HH1
              have HNF : Hid (∀ j, j < 3 → fit s f j = false) := Lib.hid fun j hj => by
                rcases (show j < 2 ∨ j = 2 by omega) with r | rfl
                · exact HA.out j r
                · show fit s f 2 = false
                  unfold fit
                  simp [e1]
              clear e1
              go_wp2_with (first
                | (go_at_call 18
                   with_reducible refine (HH1.out _).mono ?_
                   rintro e v1 ⟨rfl, hb⟩
                   have HBh1 := Lib.hid (HBa.out.trans (hb.mono HBa.out.size))
                   have HZh1 : Hid (v1.heap[wr.heap.size]? = some (.cells #[.int .u8 0, .int .u8 1, .int .u8 0, .int .u8 1, .int .u8 4] 42 (0, 0))) := Lib.hid ((hb.block _ (lt_heap HZ.out)).trans HZ.out)
                   have z11 := blk_cell HZh1.out 1
                   have z12 := blk_cell HZh1.out 2
                   have z13 := blk_cell HZh1.out 3
                   have z14 := blk_cell HZh1.out 4
                   clear hb))
              go_roundw
              case rel => exact ⟨3, by omega, by go_num, HNF.out, HBu.out.trans (HBh1.out.mono HBu.out.size)⟩
              case measure => simp [intOf]
          · have x0 := blk_cell hgr 15
            have x1 := blk_cell hgr 16
            have x2 := blk_cell hgr 17
            have x3 := blk_cell hgr 18
            have x4 := blk_cell hgr 19
            have hz : (wr.alloc (.cells #[.int .u8 2, .int .u8 16, .int .u8 2, .int .u8 1, .int .u8 3] 42)).heap[wr.heap.size]? = some (.cells #[.int .u8 2, .int .u8 16, .int .u8 2, .int .u8 1, .int .u8 3] 42 (0, 0)) := heap_alloc_new wr _
            have HBa : Hid (Below wr.heap.size wr (wr.alloc (.cells #[.int .u8 2, .int .u8 16, .int .u8 2, .int .u8 1, .int .u8 3] 42))) := Lib.hid (below_alloc wr _)
            have zz0 := blk_cell hz 0
            have zz1 := blk_cell hz 1
            have zz2 := blk_cell hz 2
            have zz3 := blk_cell hz 3
            have zz4 := blk_cell hz 4
            have HZ : Hid ((wr.alloc (.cells #[.int .u8 2, .int .u8 16, .int .u8 2, .int .u8 1, .int .u8 3] 42)).heap[wr.heap.size]? = some (.cells #[.int .u8 2, .int .u8 16, .int .u8 2, .int .u8 1, .int .u8 3] 42 (0, 0))) := Lib.hid hz
            clear hz hgr
            by_cases es : s = 2
            · have qs : ((2 : Int) == (s : Int)) = true := by simp; omega
              cases e16 : hasF f 16 with
              | true =>
                rw [e16] at HH16
                cases e2 : hasF f 2 with
                | true =>
                  rw [e2] at HH2
                  have HNF : Hid (∀ j, j < 4 → fit s f j = false) := Lib.hid fun j hj => by
                    rcases (show j < 3 ∨ j = 3 by omega) with r | rfl
                    · exact HA.out j r
                    · show fit s f 3 = false
                      unfold fit
                      simp [es, e16, e2]
                  clear es e16 e2
                  go_wp2_with (first
                    | (go_at_call 18
                       with_reducible refine (HH16.out _).mono ?_
                       rintro e v1 ⟨rfl, hb⟩
                       have HBh1 := Lib.hid (HBa.out.trans (hb.mono HBa.out.size))
                       have HZh1 : Hid (v1.heap[wr.heap.size]? = some (.cells #[.int .u8 2, .int .u8 16, .int .u8 2, .int .u8 1, .int .u8 3] 42 (0, 0))) := Lib.hid ((hb.block _ (lt_heap HZ.out)).trans HZ.out)
                       have z11 := blk_cell HZh1.out 1
                       have z12 := blk_cell HZh1.out 2
                       have z13 := blk_cell HZh1.out 3
                       have z14 := blk_cell HZh1.out 4
                       clear hb)
                    | (go_at_call 18
                       with_reducible refine (HH2.out _).mono ?_
                       rintro e v2 ⟨rfl, hb⟩
                       have HBh2 := Lib.hid (HBh1.out.trans (hb.mono HBh1.out.size))
                       have HZh2 : Hid (v2.heap[wr.heap.size]? = some (.cells #[.int .u8 2, .int .u8 16, .int .u8 2, .int .u8 1, .int .u8 3] 42 (0, 0))) := Lib.hid ((hb.block _ (lt_heap HZh1.out)).trans HZh1.out)
                       have z21 := blk_cell HZh2.out 1
                       have z22 := blk_cell HZh2.out 2
                       have z23 := blk_cell HZh2.out 3
                       have z24 := blk_cell HZh2.out 4
                       clear hb))
                  go_roundw
                  case rel => exact ⟨4, by omega, by go_num, HNF.out, HBu.out.trans (HBh2.out.mono HBu.out.size)⟩
                  case measure => simp [intOf]
                | false =>
                  rw [e2] at HH2
                  have HFS : Hid (fsN s f = frs s 3) := Lib.hid (fsN_fit (by omega) HS1.out HS2.out HM.out HA.out (by unfold fit; simp [es, e16, e2]))
                  clear es e16 e2
                  go_wp2_with (first
                    | (go_at_call 18
                       with_reducible refine (HH16.out _).mono ?_
                       rintro e v1 ⟨rfl, hb⟩
                       have HBh1 := Lib.hid (HBa.out.trans (hb.mono HBa.out.size))
                       have HZh1 : Hid (v1.heap[wr.heap.size]? = some (.cells #[.int .u8 2, .int .u8 16, .int .u8 2, .int .u8 1, .int .u8 3] 42 (0, 0))) := Lib.hid ((hb.block _ (lt_heap HZ.out)).trans HZ.out)
                       have z11 := blk_cell HZh1.out 1
                       have z12 := blk_cell HZh1.out 2
                       have z13 := blk_cell HZh1.out 3
                       have z14 := blk_cell HZh1.out 4
                       clear hb)
                    | (go_at_call 18
                       with_reducible refine (HH2.out _).mono ?_
                       rintro e v2 ⟨rfl, hb⟩
                       have HBh2 := Lib.hid (HBh1.out.trans (hb.mono HBh1.out.size))
                       have HZh2 : Hid (v2.heap[wr.heap.size]? = some (.cells #[.int .u8 2, .int .u8 16, .int .u8 2, .int .u8 1, .int .u8 3] 42 (0, 0))) := Lib.hid ((hb.block _ (lt_heap HZh1.out)).trans HZh1.out)
                       have z21 := blk_cell HZh2.out 1
                       have z22 := blk_cell HZh2.out 2
                       have z23 := blk_cell HZh2.out 3
                       have z24 := blk_cell HZh2.out 4
                       clear hb))
                  have Y3 : ∀ W : Stay v2, W.w.cell? ⟨wr.heap.size, 3, none⟩ = some (.int .u8 1) := fun W => Stay.cell z23 W
                  have Y4 : ∀ W : Stay v2, W.w.cell? ⟨wr.heap.size, 4, none⟩ = some (.int .u8 3) := fun W => Stay.cell z24 W
                  clear zz0 zz1 zz2 zz3 zz4 z11 z12 z13 z14 z21 z22 z23 z24
                  refine wp_region_stay (by kernel_rfl) (by kernel_rfl) ?_
                  repeat (go_big_quiet_step (fail))
                  refine wpQuiet_nil ?_
                  intro w' hw'
                  obtain ⟨W, rfl⟩ := hw'
                  go_wp2_with fail
                  go_ret3
                  exact ⟨by rw [HFS.out]; rfl, HBw.out.trans ((HBh2.out.trans (W.below.mono HBh2.out.size)).mono HBw.out.size)⟩
              | false =>
                rw [e16] at HH16
                have HNF : Hid (∀ j, j < 4 → fit s f j = false) := Lib.hid fun j hj => by
                  rcases (show j < 3 ∨ j = 3 by omega) with r | rfl
                  · exact HA.out j r
                  · show fit s f 3 = false
                    unfold fit
                    simp [es, e16]
                clear es e16
                go_wp2_with (first
                  | (go_at_call 18
                     with_reducible refine (HH16.out _).mono ?_
                     rintro e v1 ⟨rfl, hb⟩
                     have HBh1 := Lib.hid (HBa.out.trans (hb.mono HBa.out.size))
                     have HZh1 : Hid (v1.heap[wr.heap.size]? = some (.cells #[.int .u8 2, .int .u8 16, .int .u8 2, .int .u8 1, .int .u8 3] 42 (0, 0))) := Lib.hid ((hb.block _ (lt_heap HZ.out)).trans HZ.out)
                     have z11 := blk_cell HZh1.out 1
                     have z12 := blk_cell HZh1.out 2
                     have z13 := blk_cell HZh1.out 3
                     have z14 := blk_cell HZh1.out 4
                     clear hb))
                go_roundw
                case rel => exact ⟨4, by omega, by go_num, HNF.out, HBu.out.trans (HBh1.out.mono HBu.out.size)⟩
                case measure => simp [intOf]
            · have qs : ((2 : Int) == (s : Int)) = false := by simp; omega
              have HNF : Hid (∀ j, j < 4 → fit s f j = false) := Lib.hid fun j hj => by
                rcases (show j < 3 ∨ j = 3 by omega) with r | rfl
                · exact HA.out j r
                · show fit s f 3 = false
                  unfold fit
                  simp [es]
              clear es
              go_wp2_with fail
              go_roundw
              case rel => exact ⟨4, by omega, by go_num, HNF.out, HBu.out.trans (HBa.out.mono HBu.out.size)⟩
              case measure => simp [intOf]
          · have x0 := blk_cell hgr 20
            have x1 := blk_cell hgr 21
            have x2 := blk_cell hgr 22
            have x3 := blk_cell hgr 23
            have x4 := blk_cell hgr 24
            have hz : (wr.alloc (.cells #[.int .u8 0, .int .u8 0, .int .u8 0, .int .u8 1, .int .u8 0] 42)).heap[wr.heap.size]? = some (.cells #[.int .u8 0, .int .u8 0, .int .u8 0, .int .u8 1, .int .u8 0] 42 (0, 0)) := heap_alloc_new wr _
            have HBa : Hid (Below wr.heap.size wr (wr.alloc (.cells #[.int .u8 0, .int .u8 0, .int .u8 0, .int .u8 1, .int .u8 0] 42))) := Lib.hid (below_alloc wr _)
            have zz0 := blk_cell hz 0
            have zz1 := blk_cell hz 1
            have zz2 := blk_cell hz 2
            have zz3 := blk_cell hz 3
            have zz4 := blk_cell hz 4
            have HZ : Hid ((wr.alloc (.cells #[.int .u8 0, .int .u8 0, .int .u8 0, .int .u8 1, .int .u8 0] 42)).heap[wr.heap.size]? = some (.cells #[.int .u8 0, .int .u8 0, .int .u8 0, .int .u8 1, .int .u8 0] 42 (0, 0))) := Lib.hid hz
            clear hz hgr
            have HFS : Hid (fsN s f = frs s 4) := Lib.hid (fsN_fit (by omega) HS1.out HS2.out HM.out HA.out (by unfold fit; simp []))
            go_wp2_with fail
            go_ret3
            exact ⟨by rw [HFS.out]; rfl, HBw.out.trans (HBa.out.mono HBw.out.size)⟩
def v4 (a b c d i : Nat) : Nat := match i with | 0 => a | 1 => b | 2 => c | _ => d
set_option maxHeartbeats 1000000 in
theorem rmayT_any (a b c d : Nat) (w : World) : Calls Try.prog 11 #[.agg #[.int .u32 (a : Int), .int .u32 (b : Int), .int .u32 (c : Int), .int .u32 (d : Int)]] w (ret (.bool (fsT a b c d)) w) := by
  obtain ⟨R, hR⟩ : ∃ R, R = fsT a b c d := ⟨_, rfl⟩
  rw [← hR]
  have HR0 : Hid (∀ i, i < 4 → fsT1 (v4 a b c d i) = false → R = false) := Lib.hid fun i hi h => by
    rw [hR]
    unfold fsT
    rcases (show i = 0 ∨ i = 1 ∨ i = 2 ∨ i = 3 by omega) with rfl | rfl | rfl | rfl
    · rw [show fsT1 a = false from h]
      rfl
    · rw [show fsT1 b = false from h]
      simp
    · rw [show fsT1 c = false from h]
      simp
    · rw [show fsT1 d = false from h]
      simp
  have HR1 : Hid ((∀ i, i < 4 → fsT1 (v4 a b c d i) = true) → R = true) := Lib.hid fun h => by
    rw [hR]
    unfold fsT
    rw [show fsT1 a = true from h 0 (by omega), show fsT1 b = true from h 1 (by omega), show fsT1 c = true from h 2 (by omega), show fsT1 d = true from h 3 (by omega)]
    rfl
  clear hR
  go_enter Try.func11, Try.ntmps11
  go_upto_region 2 with fail
  change Code.wp _ _ _ _ ((w.alloc (.cells #[.int .u32 (a : Int), .int .u32 (b : Int), .int .u32 (c : Int), .int .u32 (d : Int)] 24)).alloc (.cells #[.int .u32 (a : Int), .int .u32 (b : Int), .int .u32 (c : Int), .int .u32 (d : Int)] 22))
  have HM : Hid (Mem w ((w.alloc (.cells #[.int .u32 (a : Int), .int .u32 (b : Int), .int .u32 (c : Int), .int .u32 (d : Int)] 24)).alloc (.cells #[.int .u32 (a : Int), .int .u32 (b : Int), .int .u32 (c : Int), .int .u32 (d : Int)] 22)) [(w.heap.size, .cells #[.int .u32 (a : Int), .int .u32 (b : Int), .int .u32 (c : Int), .int .u32 (d : Int)] 24 (0, 0)), (w.heap.size + 1, .cells #[.int .u32 (a : Int), .int .u32 (b : Int), .int .u32 (c : Int), .int .u32 (d : Int)] 22 (0, 0))]) := Lib.hid (by
    have h := ((Mem.nil w).alloc (.cells #[.int .u32 (a : Int), .int .u32 (b : Int), .int .u32 (c : Int), .int .u32 (d : Int)] 24)).alloc (.cells #[.int .u32 (a : Int), .int .u32 (b : Int), .int .u32 (c : Int), .int .u32 (d : Int)] 22)
    simpa using h)
  generalize (w.alloc (.cells #[.int .u32 (a : Int), .int .u32 (b : Int), .int .u32 (c : Int), .int .u32 (d : Int)] 24)).alloc (.cells #[.int .u32 (a : Int), .int .u32 (b : Int), .int .u32 (c : Int), .int .u32 (d : Int)] 22) = u at *
  obtain ⟨g, hg⟩ : ∃ g, g = w.heap.size + 1 := ⟨_, rfl⟩
  rw [← hg] at HM ⊢
  clear hg
  go_wp2_with fail
  go_loopw [4] (fun vi wr => ∃ i : Nat, i ≤ 4 ∧ vi = .int .i64 (i : Int) ∧ (∀ j, j < i → fsT1 (v4 a b c d j) = true) ∧ Below u.heap.size u wr) (fun vi _ => 4 - (intOf vi).toNat)
  case atStart => exact ⟨0, Nat.zero_le _, rfl, fun j hj => absurd hj (Nat.not_lt_zero _), Below.refl _ _⟩
  case round =>
    obtain ⟨i, hi, rfl, hall, hb⟩ := hrel
    have HA := Lib.hid hall
    have HB := Lib.hid hb
    have HMr := Lib.hid (HM.out.step hb)
    clear hall hb
    by_cases hi4 : i < 4
    · have i0 : (0 : Int) ≤ (i : Int) := by omega
      have i1 : (i : Int) < 4 := by omega
      have i2 : ((i : Int)).toNat = i := by omega
      have zi : IntKind.i64.wrap ((i : Int) + 1) = (i : Int) + 1 := by rw [IntKind.wrap_i64]; omega
      have xc : wr.cell? ⟨g, i, none⟩ = some (.int .u32 (v4 a b c d i : Int)) := by
        rcases (show i = 0 ∨ i = 1 ∨ i = 2 ∨ i = 3 by omega) with rfl | rfl | rfl | rfl
        · exact blk_cell (HMr.out.get 1 rfl) 0
        · exact blk_cell (HMr.out.get 1 rfl) 1
        · exact blk_cell (HMr.out.get 1 rfl) 2
        · exact blk_cell (HMr.out.get 1 rfl) 3
      have HF := Lib.hid (HR0.out i hi4)
      have HT : Hid (fsT1 (v4 a b c d i) = true → ∀ j, j < i + 1 → fsT1 (v4 a b c d j) = true) := Lib.hid fun h j hj => by
        rcases (show j < i ∨ j = i by omega) with q | rfl
        · exact HA.out j q
        · exact h
      obtain ⟨v, hv⟩ : ∃ v, v = v4 a b c d i := ⟨_, rfl⟩
      rw [← hv] at xc HF HT
      clear hv
      by_cases v0 : v = 0
      · have q0 : ((v : Int) == 0) = true := by simp; omega
        have HRF : Hid (R = false) := Lib.hid (HF.out (by unfold fsT1; rw [v0]; rfl))
        clear v0
        go_wp2_with fail
        go_ret
        exact ⟨by rw [HRF.out]; rfl, HMr.out.below⟩
      · have q0 : ((v : Int) == 0) = false := by simp; omega
        by_cases v1 : 1048576 < v
        · have q1 : (1048576 : Int) < (v : Int) := by omega
          have HRF : Hid (R = false) := Lib.hid (HF.out (by unfold fsT1; rw [show decide (v ≤ 1048576) = false from decide_eq_false (by omega), Bool.and_false]))
          clear v0 v1
          go_wp2_with fail
          go_ret
          exact ⟨by rw [HRF.out]; rfl, HMr.out.below⟩
        · have q1 : ¬ (1048576 : Int) < (v : Int) := by omega
          have HTT := Lib.hid (HT.out (by unfold fsT1; rw [show decide (v ≤ 1048576) = true from decide_eq_true (by omega), show decide (1 ≤ v) = true from decide_eq_true (by omega)]; rfl))
          clear v0 v1
          go_wp2_with fail
          go_roundw
          case rel => exact ⟨i + 1, by omega, by go_num, HTT.out, HB.out⟩
          case measure => simp [intOf]; omega
    · have i1 : ¬ (i : Int) < 4 := by omega
      have HRT : Hid (R = true) := Lib.hid (HR1.out fun j hj => HA.out j (by omega))
      go_wp2_with fail
      go_ret
      exact ⟨by rw [HRT.out]; rfl, HMr.out.below⟩
theorem rticks_any (a b c d s : Nat) (w : World) (hs : s < 256) : Calls Try.prog 13 #[.agg #[.int .u32 (a : Int), .int .u32 (b : Int), .int .u32 (c : Int), .int .u32 (d : Int)], .int .u8 (s : Int)] w (ret (.int .u32 (fsK a b c d s : Int)) w) := by
  obtain ⟨r, hr⟩ : ∃ r, r = fsK a b c d s := ⟨_, rfl⟩
  rw [← hr]
  unfold fsK at hr
  by_cases e1 : s = 1
  · rw [if_pos e1] at hr
    subst hr
    subst e1
    go_enter Try.func13, Try.ntmps13
    go_wp2_with fail
    go_ret
    exact ⟨rfl, below_alloc w _⟩
  · rw [if_neg e1] at hr
    have q1 : ((s : Int) == 1) = false := by simp; omega
    clear e1
    by_cases e2 : s = 2
    · rw [if_pos e2] at hr
      subst hr
      subst e2
      go_enter Try.func13, Try.ntmps13
      go_wp2_with fail
      go_ret
      exact ⟨rfl, below_alloc w _⟩
    · rw [if_neg e2] at hr
      have q2 : ((s : Int) == 2) = false := by simp; omega
      clear e2
      by_cases e3 : s = 3
      · rw [if_pos e3] at hr
        subst hr
        subst e3
        go_enter Try.func13, Try.ntmps13
        go_wp2_with fail
        go_ret
        exact ⟨rfl, below_alloc w _⟩
      · rw [if_neg e3] at hr
        have q3 : ((s : Int) == 3) = false := by simp; omega
        clear e3
        by_cases e4 : s = 4
        · rw [if_pos e4] at hr
          subst hr
          subst e4
          go_enter Try.func13, Try.ntmps13
          go_wp2_with fail
          go_ret
          exact ⟨rfl, below_alloc w _⟩
        · rw [if_neg e4] at hr
          have q4 : ((s : Int) == 4) = false := by simp; omega
          clear e4
          subst hr
          go_enter Try.func13, Try.ntmps13
          go_wp2_with fail
          go_ret
          exact ⟨rfl, below_alloc w _⟩
end Go.Proofs.Ytpdomapkagicaaa
