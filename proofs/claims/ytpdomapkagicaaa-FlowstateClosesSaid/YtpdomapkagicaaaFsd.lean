/- Stage 15: FlowstateCloses. -/
import Derived.Test.YtpdomapkagicaaaFsc
namespace Go.Proofs.Ytpdomapkagicaaa
set_option maxRecDepth 100000
open Go.RowKit Go.Shelf
theorem and_has_all : ∀ n : Fin 256, (bits .and .u8 (n.val : Int) 1 != 0) = hasF n.val 1 ∧ (bits .and .u8 (n.val : Int) 2 != 0) = hasF n.val 2 ∧ (bits .and .u8 (n.val : Int) 4 != 0) = hasF n.val 4 := by decide +kernel
theorem and_has {f : Nat} (h : f < 256) : (bits .and .u8 (f : Int) 1 != 0) = hasF f 1 ∧ (bits .and .u8 (f : Int) 2 != 0) = hasF f 2 ∧ (bits .and .u8 (f : Int) 4 != 0) = hasF f 4 := and_has_all ⟨f, h⟩
/-- What holds behind each packet: the protocol, the state, whether it is closing. -/
def FsJ (p st : Nat) (cl : Bool) : Prop := (p = 17 ∧ st = 1 ∧ cl = false) ∨ (p = 6 ∧ 2 ≤ st ∧ st ≤ 4 ∧ cl = (st == 4))
theorem fsj_first {p f : Nat} (h : (fsF p f).2 = true) : FsJ p (fsF p f).1 (p == 6 && hasF f 1) := by
  unfold fsF at h ⊢
  by_cases e17 : p = 17
  · rw [if_pos e17]
    exact .inl ⟨e17, rfl, by rw [e17]; rfl⟩
  · rw [if_neg e17] at h ⊢
    by_cases e6 : p = 6
    · rw [if_neg (not_not_intro e6)] at h ⊢
      cases em : mayFl f with
      | false =>
        rw [if_pos em] at h
        cases h
      | true =>
        rw [if_neg (by first | decide | (rw [em]; decide))] at h ⊢
        cases e4 : hasF f 4 with
        | true =>
          rw [if_pos e4] at h
          cases h
        | false =>
          rw [if_neg (by first | decide | (rw [e4]; decide))] at h ⊢
          cases e1 : hasF f 1 with
          | true =>
            rw [if_pos rfl]
            exact .inr ⟨e6, by decide, by decide, by rw [e6]; rfl⟩
          | false =>
            rw [if_neg (by decide)]
            cases hasF f 2 with
            | true => exact .inr ⟨e6, by decide, by decide, by rw [e6]; rfl⟩
            | false => exact .inr ⟨e6, by decide, by decide, by rw [e6]; rfl⟩
    · rw [if_pos e6] at h
      cases h
theorem fsF_no {p f : Nat} (h : (fsF p f).2 = false) : (fsF p f).1 = 0 := by
  unfold fsF at h ⊢
  split
  · rename_i e; rw [if_pos e] at h; cases h
  · rename_i e1; rw [if_neg e1] at h
    split
    · rfl
    · rename_i e2; rw [if_neg e2] at h
      split
      · rfl
      · rename_i e3; rw [if_neg e3] at h
        split
        · rfl
        · rename_i e4; rw [if_neg e4] at h
          split
          · rename_i e5; rw [if_pos e5] at h; cases h
          · rename_i e5; rw [if_neg e5] at h
            split
            · rename_i e6; rw [if_pos e6] at h; cases h
            · rename_i e6; rw [if_neg e6] at h; cases h
/-- What a packet may do. -/
theorem fsj_next {p st f : Nat} {cl : Bool} (h : FsJ p st cl) :
    (p = 6 ∧ fsN st f = (0, 0, 2)) ∨ (p = 17 ∧ cl = false ∧ fsN st f = (1, 1, 0)) ∨ (p = 6 ∧ fsN st f = (2, st, 0) ∧ hasF f 4 = true ∧ 2 ≤ st ∧ st ≤ 4) ∨ (p = 6 ∧ fsN st f = (3, 2, 0) ∧ cl = true ∧ hasF f 2 = true ∧ hasF f 1 = false) ∨
      (∃ y, p = 6 ∧ fsN st f = (1, y, 0) ∧ 2 ≤ y ∧ y ≤ 4 ∧ (cl || hasF f 1) = (y == 4)) := by
  rcases h with ⟨h1, h2, h3⟩ | ⟨h1, h2, h3, h4⟩
  · exact .inr (.inl ⟨h1, h3, by unfold fsN; rw [if_pos h2]⟩)
  · unfold fsN
    rw [if_neg (show ¬ st = 1 by omega), if_neg (show ¬ (st < 1 ∨ 4 < st) by omega)]
    cases em : mayFl f with
    | false =>
      rw [if_pos rfl]
      exact .inl ⟨h1, rfl⟩
    | true =>
      rw [if_neg (by decide)]
      cases e0 : (st == 4 && hasF f 2 && !hasF f 16) with
      | true =>
        rw [if_pos rfl]
        rw [Bool.and_eq_true, Bool.and_eq_true] at e0
        refine .inr (.inr (.inr (.inl ⟨h1, rfl, by rw [h4]; exact e0.1.1, e0.1.2, ?_⟩)))
        cases e1 : hasF f 1 with
        | false => rfl
        | true =>
          unfold mayFl at em
          rw [e0.1.2, e1] at em
          cases em
      | false =>
        rw [if_neg (by decide)]
        cases e4 : hasF f 4 with
        | true =>
          rw [if_pos rfl]
          exact .inr (.inr (.inl ⟨h1, rfl, rfl, h2, h3⟩))
        | false =>
          rw [if_neg (by decide)]
          refine .inr (.inr (.inr (.inr ?_)))
          cases e1 : hasF f 1 with
          | true =>
            rw [if_pos rfl]
            exact ⟨4, h1, rfl, by decide, by decide, by simp⟩
          | false =>
            rw [if_neg (by decide)]
            cases e3 : (st == 2 && hasF f 16 && !hasF f 2) with
            | true =>
              rw [if_pos rfl]
              rw [Bool.and_eq_true, Bool.and_eq_true, beq_iff_eq] at e3
              exact ⟨3, h1, rfl, by decide, by decide, by rw [h4, e3.1.1]; rfl⟩
            | false =>
              rw [if_neg (by decide)]
              exact ⟨st, h1, rfl, h2, h3, by rw [h4, Bool.or_false]⟩
set_option maxHeartbeats 8000000 in
theorem fcloses_any (HP : FsP) (p : Nat) (hp : p < 256) (A : Option Addr) (n c : Nat) (g : Nat → Nat) (hg : ∀ k, k < n → g k < 256) (w : World) (hr : Rd w w.heap.size A n (fun k => (g k : Int))) (hnc : n ≤ c) (hc9 : c ≤ 9223372036854775807) : Calls Try.prog 4 #[.int .u8 (p : Int), .slice A n c] w (ret (.bool true) w) := by
  have HK := Lib.hid fun W => fknown_any HP W
  by_cases h60 : 60 < n
  · have q1 : (60 : Int) < (n : Int) := by omega
    have HB0 : Hid (Below w.heap.size w w) := Lib.hid (Below.refl _ _)
    clear HP hg hr h60
    go_enter Try.func4, Try.ntmps4
    go_wp2_with (first
    | (go_at_call 14
       refine (HK.out _).mono ?_
       rintro e u1 ⟨rfl, hb⟩
       have HB1 := Lib.hid (HB0.out.trans (hb.mono HB0.out.size))
       clear hb))
    go_ret
    exact ⟨rfl, HB1.out⟩
  have q1 : ¬ (60 : Int) < (n : Int) := by omega
  by_cases h0 : n = 0
  · have HB0 : Hid (Below w.heap.size w w) := Lib.hid (Below.refl _ _)
    subst h0
    clear HP hg hr
    go_enter Try.func4, Try.ntmps4
    go_wp2_with (first
    | (go_at_call 14
       refine (HK.out _).mono ?_
       rintro e u1 ⟨rfl, hb⟩
       have HB1 := Lib.hid (HB0.out.trans (hb.mono HB0.out.size))
       clear hb))
    go_ret
    exact ⟨rfl, HB1.out⟩
  have q0 : ((n : Int) == 0) = false := by simp; omega
  have n0 : 0 < n := by omega
  have n1 : (0 : Int) < (n : Int) := by omega
  obtain ⟨b, off, hA, hbl, hcell⟩ : ∃ b off, A = some ⟨b, off, none⟩ ∧ b < w.heap.size ∧ ∀ k, k < n → w.cell? ⟨b, off + k, none⟩ = some (.int .u8 (g k : Int)) := by
    rcases hr with h | h
    · exact absurd h h0
    · exact h
  subst hA
  have HCE : Hid (∀ W, Below w.heap.size w W → ∀ k, k < n → W.cell? ⟨b, off + k, none⟩ = some (.int .u8 (g k : Int))) := Lib.hid fun W hW k hk => (hW.cell (p := ⟨b, off + k, none⟩) hbl).trans (hcell k hk)
  have c0 : w.cell? ⟨b, off, none⟩ = some (.int .u8 (g 0 : Int)) := hcell 0 n0
  obtain ⟨D, hsl, hD⟩ := slice_from b off n c 1 (by omega) hnc hc9
  have HD := Lib.hid hD
  obtain ⟨N, hN⟩ : ∃ N, N = n - 1 := ⟨_, rfl⟩
  obtain ⟨C, hC⟩ : ∃ C, C = c - 1 := ⟨_, rfl⟩
  have hsl : ∀ W, (Instr.sliceAt 35 (.slice (some ⟨b, off, none⟩) n c) (some (.int .i64 1)) none none).run Try.prog W = .ok (.slice D N C) W := by
    rw [hN, hC]
    exact hsl
  rw [← hN] at HD
  have HNN := Lib.hid hN
  have hNC : N ≤ C := by omega
  have hC9 : C ≤ 9223372036854775807 := by omega
  have HF : Hid (∀ W : World, Calls Try.prog 5 #[.int .u8 (p : Int), .int .u8 (g 0 : Int)] W (ret (.tuple #[.int .u8 ((fsF p (g 0)).1 : Int), .bool (fsF p (g 0)).2]) W)) := Lib.hid fun W => HP.first p (g 0) W hp (hg 0 n0)
  have HG := Lib.hid hg
  have HPH := Lib.hid HP
  have HB0 : Hid (Below w.heap.size w w) := Lib.hid (Below.refl _ _)
  have HN0 := Lib.hid n0
  clear hr hcell hD hg h0 HP hbl h60 n0 hN hC
  cases hok : (fsF p (g 0)).2 with
  | false =>
    rw [hok, fsF_no hok] at HF
    have HF : Hid (∀ W : World, Calls Try.prog 5 #[.int .u8 (p : Int), .int .u8 (g 0 : Int)] W (ret (.tuple #[.int .u8 0, .bool false]) W)) := HF
    clear hok
    go_enter Try.func4, Try.ntmps4
    go_wp2_with (first
      | (go_at_call 5
         refine (HF.out _).mono ?_
         rintro e u1 ⟨rfl, hb⟩
         have HB1 := Lib.hid hb
         clear hb)
      | (go_at_call 14
         refine (HK.out _).mono ?_
         rintro e u2 ⟨rfl, hb⟩
         have HB2 := Lib.hid (HB1.out.trans (hb.mono HB1.out.size))
         clear hb))
    go_ret
    exact ⟨rfl, HB2.out⟩
  | true =>
    rw [hok] at HF
    have HJ0 := Lib.hid (fsj_first hok)
    have hz := (and_has (HG.out 0 HN0.out)).1
    obtain ⟨z, hz1⟩ : ∃ z, z = bits .and .u8 (g 0 : Int) 1 := ⟨_, rfl⟩
    rw [← hz1] at hz
    have hz2 := hz1.symm
    obtain ⟨s0, hs0⟩ : ∃ x, x = (fsF p (g 0)).1 := ⟨_, rfl⟩
    rw [← hs0] at HF HJ0
    rw [← hz] at HJ0
    obtain ⟨cl0, hcl0⟩ : ∃ x, x = (z != 0) := ⟨_, rfl⟩
    rw [← hcl0] at HJ0
    have hzc := hcl0.symm
    clear hok hs0 hz hz1 hcl0
    by_cases h6 : p = 6
    · have HJ1 : Hid (FsJ p s0 cl0) := Lib.hid (by
        have := HJ0.out
        rw [h6] at this ⊢
        exact this)
      have q6 : ((p : Int) == 6) = true := by simp; omega
      have q17 : ((p : Int) == 17) = false := by simp; omega
      have HP6 := Lib.hid h6
      clear h6 HJ0
      go_enter Try.func4, Try.ntmps4
      go_upto_region 6 with (first
        | (go_at_call 5
           refine (HF.out _).mono ?_
           rintro e u1 ⟨rfl, hb⟩
           have HB1 := Lib.hid hb
           have c1 : u1.cell? ⟨b, off, none⟩ = some (.int .u8 (g 0 : Int)) := HCE.out u1 hb 0 HN0.out
           clear hb c0))
      go_wp2_with fail
      clear c1 hz2 hzc
      go_loopw [5, 7, 49] (fun vs vc vi wr => ∃ (k st : Nat) (cl : Bool), k ≤ N ∧ vi = .int .i64 (k : Int) ∧ vs = .int .u8 (st : Int) ∧ vc = .bool cl ∧ FsJ p st cl ∧ Below w.heap.size w wr) (fun _ _ vi _ => N - (intOf vi).toNat)
      case atStart => exact ⟨0, s0, cl0, Nat.zero_le _, rfl, rfl, rfl, HJ1.out, HB1.out⟩
      case round =>
        obtain ⟨k, st, cl, hk, rfl, rfl, rfl, hj, hb⟩ := hrel
        have HBr := Lib.hid hb
        by_cases hlt : k < N
        · have k0 : (0 : Int) ≤ (k : Int) := by omega
          have k1 : (k : Int) < (N : Int) := by omega
          have k2 : ((k : Int)).toNat = k := by omega
          have zk : IntKind.i64.wrap ((k : Int) + 1) = (k : Int) + 1 := by rw [IntKind.wrap_i64]; omega
          obtain rfl := HD.out (by omega)
          have xf : wr.cell? ⟨b, off + 1 + k, none⟩ = some (.int .u8 (g (k + 1) : Int)) := by
            rw [show off + 1 + k = off + (k + 1) by omega]
            exact HCE.out wr hb (k + 1) (by have := HNN.out; omega)
          have hgf := HG.out (k + 1) (by have := HNN.out; omega)
          obtain ⟨f, hf⟩ : ∃ f, f = g (k + 1) := ⟨_, rfl⟩
          rw [← hf] at xf hgf
          clear hb hf
          have HNX : Hid (∀ W : World, Calls Try.prog 7 #[.int .u8 (st : Int), .int .u8 (f : Int)] W (ret (.tuple #[.int .u8 ((fsN st f).1 : Int), .int .u8 ((fsN st f).2.1 : Int), .int .i64 (fsN st f).2.2]) W)) := Lib.hid fun W => HPH.out.next st f W (by rcases hj with h | h <;> omega) hgf
          have hh := and_has hgf
          obtain ⟨z1, hz1⟩ : ∃ z, z = bits .and .u8 (f : Int) 1 := ⟨_, rfl⟩
          obtain ⟨z2, hz2⟩ : ∃ z, z = bits .and .u8 (f : Int) 2 := ⟨_, rfl⟩
          obtain ⟨z4, hz4⟩ : ∃ z, z = bits .and .u8 (f : Int) 4 := ⟨_, rfl⟩
          rw [← hz1, ← hz2, ← hz4] at hh
          have w1 := hz1.symm
          have w2 := hz2.symm
          have w4 := hz4.symm
          clear hz1 hz2 hz4 hgf
          rcases fsj_next (f := f) hj with ⟨-, hn⟩ | ⟨h17, -⟩ | ⟨-, hn, h4, hs2, hs4⟩ | ⟨-, hn, hc, h2, h1⟩ | ⟨y, -, hn, hy2, hy4, hcy⟩
          · rw [hn] at HNX
            have HNX : Hid (∀ W : World, Calls Try.prog 7 #[.int .u8 (st : Int), .int .u8 (f : Int)] W (ret (.tuple #[.int .u8 0, .int .u8 0, .int .i64 2]) W)) := HNX
            clear hj hn hh w1 w2 w4
            go_wp2_with (first
              | (go_at_call 7
                 refine (HNX.out _).mono ?_
                 rintro e u2 ⟨rfl, hb⟩
                 have HB2 := Lib.hid (HBr.out.trans (hb.mono HBr.out.size))
                 clear hb)
              | (go_at_call 14
                 refine (HK.out _).mono ?_
                 rintro e u3 ⟨rfl, hb⟩
                 have HB3 := Lib.hid (HB2.out.trans (hb.mono HB2.out.size))
                 clear hb))
            go_ret
            exact ⟨rfl, HB3.out⟩
          · have := HP6.out
            omega
          · rw [hn] at HNX
            have HNX : Hid (∀ W : World, Calls Try.prog 7 #[.int .u8 (st : Int), .int .u8 (f : Int)] W (ret (.tuple #[.int .u8 2, .int .u8 (st : Int), .int .i64 0]) W)) := HNX
            have HMY : Hid (∀ W : World, Calls Try.prog 9 #[.int .u8 (st : Int)] W (ret (.bool true) W)) := Lib.hid fun W => by
              have := HPH.out.may st W (by omega)
              rwa [show fsM st = true from by unfold fsM; rw [show decide (1 ≤ st) = true from decide_eq_true (by omega), show decide (st ≤ 4) = true from decide_eq_true hs4]; rfl] at this
            have s1 : ((st : Int) == 1) = false := by simp; omega
            have v4 : (z4 != 0) = true := by rw [hh.2.2, h4]
            clear hj hn hh w1 w2 h4 hs2 hs4
            go_wp2_with (first
              | (go_at_call 7
                 refine (HNX.out _).mono ?_
                 rintro e u2 ⟨rfl, hb⟩
                 have HB2 := Lib.hid (HBr.out.trans (hb.mono HBr.out.size))
                 clear hb)
              | (go_at_call 9
                 refine (HMY.out _).mono ?_
                 rintro e u3 ⟨rfl, hb⟩
                 have HB3 := Lib.hid (HB2.out.trans (hb.mono HB2.out.size))
                 clear hb)
              | (go_at_call 14
                 refine (HK.out _).mono ?_
                 rintro e u4 ⟨rfl, hb⟩
                 have HB4 := Lib.hid (HB3.out.trans (hb.mono HB3.out.size))
                 clear hb))
            go_ret
            exact ⟨rfl, HB4.out⟩
          · rw [hn] at HNX
            have HNX : Hid (∀ W : World, Calls Try.prog 7 #[.int .u8 (st : Int), .int .u8 (f : Int)] W (ret (.tuple #[.int .u8 3, .int .u8 2, .int .i64 0]) W)) := HNX
            have HMY : Hid (∀ W : World, Calls Try.prog 9 #[.int .u8 2] W (ret (.bool true) W)) := Lib.hid fun W => HPH.out.may 2 W (by omega)
            have v1 : (z1 != 0) = false := by rw [hh.1, h1]
            have v2 : (z2 == 0) = false := by
              have := hh.2.1.trans h2
              simpa [bne] using this
            subst hc
            clear hj hn hh w4 h2 h1
            go_wp2_with (first
              | (go_at_call 7
                 refine (HNX.out _).mono ?_
                 rintro e u2 ⟨rfl, hb⟩
                 have HB2 := Lib.hid (HBr.out.trans (hb.mono HBr.out.size))
                 clear hb)
              | (go_at_call 9
                 refine (HMY.out _).mono ?_
                 rintro e u3 ⟨rfl, hb⟩
                 have HB3 := Lib.hid (HB2.out.trans (hb.mono HB2.out.size))
                 clear hb))
            go_roundw
            case rel =>
              exact ⟨k + 1, 2, false, by omega, by go_num, rfl, rfl, .inr ⟨HP6.out, by decide, by decide, rfl⟩, HB3.out⟩
            case measure => simp [intOf]; omega
          · rw [hn] at HNX
            have HNX : Hid (∀ W : World, Calls Try.prog 7 #[.int .u8 (st : Int), .int .u8 (f : Int)] W (ret (.tuple #[.int .u8 1, .int .u8 (y : Int), .int .i64 0]) W)) := HNX
            have HMY : Hid (∀ W : World, Calls Try.prog 9 #[.int .u8 (y : Int)] W (ret (.bool true) W)) := Lib.hid fun W => by
              have := HPH.out.may y W (by omega)
              rwa [show fsM y = true from by unfold fsM; rw [show decide (1 ≤ y) = true from decide_eq_true (by omega), show decide (y ≤ 4) = true from decide_eq_true hy4]; rfl] at this
            have s1 : ((y : Int) == 1) = false := by simp; omega
            have s4 : ((y : Int) == 4) = (y == 4) := by
              rw [Bool.eq_iff_iff, beq_iff_eq, beq_iff_eq]
              omega
            have HYB : Hid (2 ≤ y ∧ y ≤ 4) := Lib.hid ⟨hy2, hy4⟩
            have v1 := hh.1
            obtain ⟨e1, he1⟩ : ∃ x, x = hasF f 1 := ⟨_, rfl⟩
            obtain ⟨e4, he4⟩ : ∃ x, x = (y == 4) := ⟨_, rfl⟩
            rw [← he1] at v1 hcy
            rw [← he4] at s4 hcy
            have HE4 := Lib.hid he4
            clear hj hn hh w2 w4 hy2 hy4 he1 he4
            cases cl <;> cases e1
            · obtain rfl : e4 = false := hcy.symm
              clear hcy
              go_wp2_with (first
                | (go_at_call 7
                   refine (HNX.out _).mono ?_
                   rintro e u2 ⟨rfl, hb⟩
                   have HB2 := Lib.hid (HBr.out.trans (hb.mono HBr.out.size))
                   clear hb)
                | (go_at_call 9
                   refine (HMY.out _).mono ?_
                   rintro e u3 ⟨rfl, hb⟩
                   have HB3 := Lib.hid (HB2.out.trans (hb.mono HB2.out.size))
                   clear hb))
              go_roundw
              case rel => exact ⟨k + 1, y, false, by omega, by go_num, rfl, rfl, .inr ⟨HP6.out, HYB.out.1, HYB.out.2, HE4.out⟩, HB3.out⟩
              case measure => simp [intOf]; omega
            · obtain rfl : e4 = true := hcy.symm
              clear hcy
              go_wp2_with (first
                | (go_at_call 7
                   refine (HNX.out _).mono ?_
                   rintro e u2 ⟨rfl, hb⟩
                   have HB2 := Lib.hid (HBr.out.trans (hb.mono HBr.out.size))
                   clear hb)
                | (go_at_call 9
                   refine (HMY.out _).mono ?_
                   rintro e u3 ⟨rfl, hb⟩
                   have HB3 := Lib.hid (HB2.out.trans (hb.mono HB2.out.size))
                   clear hb))
              go_roundw
              case rel => exact ⟨k + 1, y, true, by omega, by go_num, rfl, rfl, .inr ⟨HP6.out, HYB.out.1, HYB.out.2, HE4.out⟩, HB3.out⟩
              case measure => simp [intOf]; omega
            · obtain rfl : e4 = true := hcy.symm
              clear hcy
              go_wp2_with (first
                | (go_at_call 7
                   refine (HNX.out _).mono ?_
                   rintro e u2 ⟨rfl, hb⟩
                   have HB2 := Lib.hid (HBr.out.trans (hb.mono HBr.out.size))
                   clear hb)
                | (go_at_call 9
                   refine (HMY.out _).mono ?_
                   rintro e u3 ⟨rfl, hb⟩
                   have HB3 := Lib.hid (HB2.out.trans (hb.mono HB2.out.size))
                   clear hb))
              go_roundw
              case rel => exact ⟨k + 1, y, true, by omega, by go_num, rfl, rfl, .inr ⟨HP6.out, HYB.out.1, HYB.out.2, HE4.out⟩, HB3.out⟩
              case measure => simp [intOf]; omega
            · obtain rfl : e4 = true := hcy.symm
              clear hcy
              go_wp2_with (first
                | (go_at_call 7
                   refine (HNX.out _).mono ?_
                   rintro e u2 ⟨rfl, hb⟩
                   have HB2 := Lib.hid (HBr.out.trans (hb.mono HBr.out.size))
                   clear hb)
                | (go_at_call 9
                   refine (HMY.out _).mono ?_
                   rintro e u3 ⟨rfl, hb⟩
                   have HB3 := Lib.hid (HB2.out.trans (hb.mono HB2.out.size))
                   clear hb))
              go_roundw
              case rel => exact ⟨k + 1, y, true, by omega, by go_num, rfl, rfl, .inr ⟨HP6.out, HYB.out.1, HYB.out.2, HE4.out⟩, HB3.out⟩
              case measure => simp [intOf]; omega
        · have k1 : ¬ (k : Int) < (N : Int) := by omega
          clear hb
          go_wp2_with (first
            | (go_at_call 14
               refine (HK.out _).mono ?_
               rintro e u9 ⟨rfl, hb⟩
               have HB9 := Lib.hid (HBr.out.trans (hb.mono HBr.out.size))
               clear hb))
          go_ret
          exact ⟨rfl, HB9.out⟩
    · have HU : Hid (p = 17 ∧ s0 = 1) := Lib.hid (by
        rcases HJ0.out with h | h
        · exact ⟨h.1, h.2.1⟩
        · exact absurd h.1 h6)
      have q6 : ((p : Int) == 6) = false := by simp; omega
      have q17 : ((p : Int) == 17) = true := by
        have := HU.out.1
        simp
        omega
      have es0 : s0 = 1 := HU.out.2
      rw [es0] at HF
      clear h6 HJ0 es0 hz2 hzc
      have HF : Hid (∀ W : World, Calls Try.prog 5 #[.int .u8 (p : Int), .int .u8 (g 0 : Int)] W (ret (.tuple #[.int .u8 1, .bool true]) W)) := HF
      go_enter Try.func4, Try.ntmps4
      go_upto_region 6 with (first
        | (go_at_call 5
           refine (HF.out _).mono ?_
           rintro e u1 ⟨rfl, hb⟩
           have HB1 := Lib.hid hb
           have c1 : u1.cell? ⟨b, off, none⟩ = some (.int .u8 (g 0 : Int)) := HCE.out u1 hb 0 HN0.out
           clear hb c0))
      go_wp2_with fail
      clear c1
      go_loopw [5, 7, 49] (fun vs vc vi wr => ∃ k : Nat, k ≤ N ∧ vi = .int .i64 (k : Int) ∧ vs = .int .u8 1 ∧ vc = .bool false ∧ Below w.heap.size w wr) (fun _ _ vi _ => N - (intOf vi).toNat)
      case atStart => exact ⟨0, Nat.zero_le _, rfl, rfl, rfl, HB1.out⟩
      case round =>
        obtain ⟨k, hk, rfl, rfl, rfl, hb⟩ := hrel
        have HBr := Lib.hid hb
        by_cases hlt : k < N
        · have k0 : (0 : Int) ≤ (k : Int) := by omega
          have k1 : (k : Int) < (N : Int) := by omega
          have k2 : ((k : Int)).toNat = k := by omega
          have zk : IntKind.i64.wrap ((k : Int) + 1) = (k : Int) + 1 := by rw [IntKind.wrap_i64]; omega
          obtain rfl := HD.out (by omega)
          have xf : wr.cell? ⟨b, off + 1 + k, none⟩ = some (.int .u8 (g (k + 1) : Int)) := by
            rw [show off + 1 + k = off + (k + 1) by omega]
            exact HCE.out wr hb (k + 1) (by have := HNN.out; omega)
          have hgf := HG.out (k + 1) (by have := HNN.out; omega)
          obtain ⟨f, hf⟩ : ∃ f, f = g (k + 1) := ⟨_, rfl⟩
          rw [← hf] at xf hgf
          clear hb hf
          have HNX : Hid (∀ W : World, Calls Try.prog 7 #[.int .u8 1, .int .u8 (f : Int)] W (ret (.tuple #[.int .u8 1, .int .u8 1, .int .i64 0]) W)) := Lib.hid fun W => HPH.out.next 1 f W (by omega) hgf
          have HMY : Hid (∀ W : World, Calls Try.prog 9 #[.int .u8 1] W (ret (.bool true) W)) := Lib.hid fun W => HPH.out.may 1 W (by omega)
          clear hgf
          go_wp2_with (first
            | (go_at_call 7
               refine (HNX.out _).mono ?_
               rintro e u2 ⟨rfl, hb⟩
               have HB2 := Lib.hid (HBr.out.trans (hb.mono HBr.out.size))
               clear hb)
            | (go_at_call 9
               refine (HMY.out _).mono ?_
               rintro e u3 ⟨rfl, hb⟩
               have HB3 := Lib.hid (HB2.out.trans (hb.mono HB2.out.size))
               clear hb))
          go_roundw
          case rel => exact ⟨k + 1, by omega, by go_num, rfl, rfl, HB3.out⟩
          case measure => simp [intOf]; omega
        · have k1 : ¬ (k : Int) < (N : Int) := by omega
          clear hb
          go_wp2_with (first
            | (go_at_call 14
               refine (HK.out _).mono ?_
               rintro e u9 ⟨rfl, hb⟩
               have HB9 := Lib.hid (HBr.out.trans (hb.mono HBr.out.size))
               clear hb))
          go_ret
          exact ⟨rfl, HB9.out⟩
end Go.Proofs.Ytpdomapkagicaaa
