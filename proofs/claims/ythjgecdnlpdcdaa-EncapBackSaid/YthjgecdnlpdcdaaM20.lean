import Derived.Test.YthjgecdnlpdcdaaM19
/- The program's ip6.Chain. -/
namespace Go.Proofs.Ythjgecdnlpdcdaa
set_option maxRecDepth 100000
open Go.RowKit Go.MapKept
theorem kfind_kinds (a : Addr) (nx : Int) : kfind (.int .u8) (.int .u8 nx) (kinds a) =
    if nx = 60 then some optV else if nx = 0 then some (hopV a) else if nx = 43 then some (routV a) else if nx = 44 then some fragV else none := by
  simp [kfind, kinds, Instr.sameNow]
theorem zero_header (w : World) : (zeroValue 90).run Try.prog w = .ok .nilFunc w := by kernel_rfl
set_option maxRecDepth 100000 in
set_option maxHeartbeats 2000000 in
theorem chain_any (next : Int) (hn0 : 0 ≤ next ∧ next ≤ 255) (A : Option Addr) (N c : Nat) (f : Nat → Int) (hf : Byt f) (hN : N ≤ 4611686018427387904) (hcap : N ≤ c) (hc9 : c ≤ 9223372036854775807) (w : World) (hr : Rd w w.heap.size A N f) :
    Calls Try.prog 23 #[.int .u8 next, .slice A N c] w (ChOut (chn f N 8 next 0) w) := by
  have HR := Lib.hid hr
  have HF := Lib.hid hf
  obtain ⟨R, hR⟩ : ∃ R, R = chn f N 8 next 0 := ⟨_, rfl⟩
  rw [← hR]
  have HRE := Lib.hid hR
  have HNX := Lib.hid hn0
  clear hr hf hR hn0
  go_enter Try.func23, Try.ntmps23
  go_wp2
  go_step3
  go_wp2_with (go_at_call 36; refine (headers_any w).mono ?_; rintro e w1 ⟨rfl, hb1, hk1, hc1⟩)
  have HB1 := Lib.hid hb1
  have HK1 := Lib.hid hk1
  have HC1 := Lib.hid hc1
  clear hb1 hk1 hc1
  go_step3
  go_wp2
  go_loop [0, 5, 8] (fun x y z => ∃ (k a : Nat) (nx : Int), k ≤ 8 ∧ x = .int .u8 nx ∧ y = .int .i64 (a : Int) ∧ z = .int .i64 ((8 - k : Nat) : Int) ∧ a ≤ N ∧ Hid (0 ≤ nx ∧ nx ≤ 255) ∧ Hid (R = chn f N k nx a)) (fun _ _ z => 8 - (intOf z).toNat)
  case atStart => exact ⟨8, 0, next, Nat.le_refl _, rfl, rfl, rfl, Nat.zero_le _, HNX, HRE⟩
  case round =>
    obtain ⟨k, a, nx, hk, rfl, rfl, rfl, ha, HX, HK⟩ := hrel
    have hlk := HK1.out.look (P := Try.prog) Try.underlying87 Try.underlying5 (zero_header w1) (key := .int .u8 nx) (by rfl) true
    rw [kfind_kinds] at hlk
    by_cases hx : ext6 nx = true
    · cases k with
      | zero =>
        have hRv : R = (0, 0, 3) := by
          rw [HK.out]
          unfold chn
          rw [if_pos hx]
        have HRV := Lib.hid hRv
        have hv : ∃ v, (Instr.lookup 87 (.map (some (w.heap.size + 1))) (.int .u8 nx) true).run Try.prog w1 = .ok (.tuple #[v, .bool true]) w1 := by
          rw [hlk]
          unfold ext6 at hx
          simp at hx
          rcases hx with ((rfl | rfl) | rfl) | rfl <;> exact ⟨_, rfl⟩
        obtain ⟨v, hv⟩ := hv
        clear hRv hx HK HRE hlk
        go_wp2
        try rw [Exit.noGoto_ret]
        refine bodyPost_ret (v := .tuple #[.int .u8 0, .int .i64 0, .int .i64 3]) (by simp [results, Try.results23]) rfl ?_
        exact ⟨by rw [HRV.out]; rfl, HB1.out⟩
      | succ k =>
        obtain ⟨z, hz⟩ : ∃ z : Nat, z = 8 - (k + 1) := ⟨_, rfl⟩
        rw [← hz]
        have z8 : ((z : Int) == 8) = false := by simp; omega
        obtain ⟨q, hq⟩ : ∃ q : Bool, q = decide (k = 7) := ⟨_, rfl⟩
        have hqz : q = decide (z = 0) := by rw [hq]; congr 1; simp; omega
        obtain ⟨D, hD, hDr⟩ := slice_any A N c a ha hcap hc9
        obtain ⟨r, hr⟩ : ∃ r, r = one6 nx q (fun j => f (a + j)) (N - a) := ⟨_, rfl⟩
        have HRD := Lib.hid (hDr w1 w1.heap.size f ((HR.out.keep HB1.out).more HB1.out.size))
        have HRV : Hid (R = if r.2 = 0 then chn f N k (f a) (a + r.1) else (0, 0, r.2)) := Lib.hid (by
          rw [HK.out, hr, hq]
          exact chn_succ hx)
        have HOK : Hid (r.2 = 0 → 8 ≤ r.1 ∧ r.1 ≤ N - a) := fun h => by
          rw [hr] at h ⊢
          obtain ⟨b1, b2, _⟩ := one6_ok h
          exact ⟨b1, b2⟩
        have hcell := HC1.out
        have hBF : Byt (fun j => f (a + j)) := fun j => HF.out _
        have i0 : (0 : Int) ≤ (a : Int) := by omega
        have i9 : N - a ≤ 4611686018427387904 := by omega
        have H60 : nx = 60 → Calls Try.prog 41 #[.int .i64 (z : Int), .slice D (N - a) (c - a)] w1 (HdOut r w1) := fun e => by
          subst e
          rw [hr, one6_opt (by omega) (by omega) (by omega)]
          exact opt_any _ D (N - a) (c - a) _ hBF i9 w1 _ HRD.out
        have H0 : nx = 0 → Calls Try.prog 42 #[.int .i64 (z : Int), .slice D (N - a) (c - a), .pointer (some ⟨w.heap.size, 0, none⟩)] w1 (HdOut r w1) := fun e => by
          subst e
          rw [hr, hqz]
          exact hop_any z (by omega) D (N - a) (c - a) _ hBF i9 w1 _ HRD.out _ hcell
        have H43 : nx = 43 → Calls Try.prog 43 #[.int .i64 (z : Int), .slice D (N - a) (c - a), .pointer (some ⟨w.heap.size, 0, none⟩)] w1 (HdOut r w1) := fun e => by
          subst e
          rw [hr]
          exact rout_any z q D (N - a) (c - a) _ hBF i9 w1 _ HRD.out _ hcell
        have H44 : nx = 44 → Calls Try.prog 44 #[.int .i64 (z : Int), .slice D (N - a) (c - a)] w1 (HdOut r w1) := fun e => by
          subst e
          rw [hr]
          exact frag_any z q D (N - a) (c - a) _ hBF i9 w1 _ HRD.out
        have J60 := Lib.hid H60
        have J0 := Lib.hid H0
        have J43 := Lib.hid H43
        have J44 := Lib.hid H44
        obtain ⟨r1, r2⟩ := r
        have HZ := Lib.hid hz
        have HX4 : nx = 0 ∨ nx = 43 ∨ nx = 44 ∨ nx = 60 := by
          unfold ext6 at hx
          simp at hx
          omega
        clear hx HK HRE hr hDr hq hqz hz hcell hBF i9 H60 H0 H43 H44
        by_cases he : r2 = 0
        · subst he
          obtain ⟨b1, b2⟩ := HOK.out rfl
          have b1' : 8 ≤ r1 := b1
          have b2' : r1 ≤ N - a := b2
          rcases HR.out with h0 | ⟨b, off, rfl, hbb, hcell⟩
          · omega
          have x0 := (HB1.out.cell (p := ⟨b, off + a, none⟩) hbb).trans (hcell a (by omega))
          clear hcell b1 b2
          have i1 : (a : Int) < (N : Int) := by omega
          have i3 : ((a : Int)).toNat = a := by omega
          have i4 : IntKind.i64.wrap ((a : Int) + (r1 : Int)) = (a : Int) + (r1 : Int) := by rw [IntKind.wrap_i64]; omega
          have hz8 : z < 8 := by have := HZ.out; omega
          have i5 : IntKind.i64.wrap ((z : Int) + 1) = (z : Int) + 1 := by rw [IntKind.wrap_i64]; omega
          have HEND : Hid (∃ (k' a' : Nat) (nx' : Int), k' ≤ 8 ∧ Value.int .u8 (f a) = .int .u8 nx' ∧ Value.int .i64 ((a : Int) + (r1 : Int)) = .int .i64 (a' : Int) ∧ Value.int .i64 ((z : Int) + 1) = .int .i64 ((8 - k' : Nat) : Int) ∧ a' ≤ N ∧ Hid (0 ≤ nx' ∧ nx' ≤ 255) ∧ Hid (R = chn f N k' nx' a')) :=
            Lib.hid ⟨k, a + r1, f a, by omega, rfl, by simp, by have := HZ.out; congr 1; omega, by omega, Lib.hid (HF.out a), Lib.hid (by rw [HRV.out]; simp)⟩
          rcases HX4 with rfl | rfl | rfl | rfl
          all_goals
            first | replace hlk := Lib.hid hlk | skip
            have hl2 := hlk.out
            simp only [if_pos, if_neg, show ¬ (0 : Int) = 60 by omega, show ¬ (43 : Int) = 60 by omega, show ¬ (43 : Int) = 0 by omega, show ¬ (44 : Int) = 60 by omega, show ¬ (44 : Int) = 0 by omega, show ¬ (44 : Int) = 43 by omega, optV, hopV, routV, fragV] at hl2
            clear hlk
            go_wp2_with (first
              | (go_at_call 41; refine (J60.out rfl).mono ?_; rintro e w2 ⟨rfl, rfl⟩)
              | (go_at_call 42; refine (J0.out rfl).mono ?_; rintro e w2 ⟨rfl, rfl⟩)
              | (go_at_call 43; refine (J43.out rfl).mono ?_; rintro e w2 ⟨rfl, rfl⟩)
              | (go_at_call 44; refine (J44.out rfl).mono ?_; rintro e w2 ⟨rfl, rfl⟩))
            go_round
            case rel => exact HEND.out
            case measure => have := HZ.out; simp [intOf]; omega
        · have he' : (r2 == 0) = false := by simpa using he
          rcases HX4 with rfl | rfl | rfl | rfl
          all_goals
            first | replace hlk := Lib.hid hlk | skip
            have hl2 := hlk.out
            simp only [if_pos, if_neg, show ¬ (0 : Int) = 60 by omega, show ¬ (43 : Int) = 60 by omega, show ¬ (43 : Int) = 0 by omega, show ¬ (44 : Int) = 60 by omega, show ¬ (44 : Int) = 0 by omega, show ¬ (44 : Int) = 43 by omega, optV, hopV, routV, fragV] at hl2
            clear hlk
            go_wp2_with (first
              | (go_at_call 41; refine (J60.out rfl).mono ?_; rintro e w2 ⟨rfl, rfl⟩)
              | (go_at_call 42; refine (J0.out rfl).mono ?_; rintro e w2 ⟨rfl, rfl⟩)
              | (go_at_call 43; refine (J43.out rfl).mono ?_; rintro e w2 ⟨rfl, rfl⟩)
              | (go_at_call 44; refine (J44.out rfl).mono ?_; rintro e w2 ⟨rfl, rfl⟩))
            try rw [Exit.noGoto_ret]
            refine bodyPost_ret (v := .tuple #[.int .u8 0, .int .i64 0, .int .i64 r2]) (by simp [results, Try.results23]) rfl ?_
            exact ⟨by rw [HRV.out, if_neg he]; rfl, HB1.out⟩
    · have hRv : R = (nx, a, 0) := by
        rw [HK.out]
        cases k <;> (unfold chn; rw [if_neg hx])
      have HRV := Lib.hid hRv
      have h0 : nx ≠ 60 ∧ nx ≠ 0 ∧ nx ≠ 43 ∧ nx ≠ 44 := by
        unfold ext6 at hx
        simp at hx
        omega
      rw [if_neg h0.1, if_neg h0.2.1, if_neg h0.2.2.1, if_neg h0.2.2.2] at hlk
      replace hlk : (Instr.lookup 87 (.map (some (w.heap.size + 1))) (.int .u8 nx) true).run Try.prog w1 = .ok (.tuple #[.nilFunc, .bool false]) w1 := hlk
      clear hRv hx HK HRE h0
      go_wp2
      try rw [Exit.noGoto_ret]
      refine bodyPost_ret (v := .tuple #[.int .u8 nx, .int .i64 (a : Int), .int .i64 0]) (by simp [results, Try.results23]) rfl ?_
      exact ⟨by rw [HRV.out], HB1.out⟩
end Go.Proofs.Ythjgecdnlpdcdaa
