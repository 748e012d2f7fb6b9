import Derived.Test.YtkmakdhlaenaoaaGm32
import Derived.Test.YtkmakdhlaenaoaaGm34
/- Stage 11: WheelDue. -/
namespace Go.Proofs.Ytkmakdhlaenaoaa
set_option maxRecDepth 100000
open Go.RowKit Go.Shelf
theorem due_new (w : World) : Calls Try.prog 7 #[.int .i64 20] w fun e w' => ∃ p, e = .returned (.tuple #[.pointer (some ⟨p, 0, none⟩), .int .i64 0]) ∧ WSt w (fun _ => False) w' p (Wh.new 20) := by
  have h := wst_new w w (Below.refl _ _) 20 (by omega) (by omega)
  refine h.mono ?_
  rintro e w' ⟨p, rfl, hs, _⟩
  exact ⟨p, rfl, hs⟩
theorem armH_eq (s : Wh) (at_ : Nat) : ∃ x1 x2 : Int, s.armH at_ = #[.int .i64 x1, .int .u64 x2] := by
  unfold Wh.armH
  split
  · exact ⟨_, _, rfl⟩
  · split
    · exact ⟨_, _, rfl⟩
    · exact ⟨_, _, rfl⟩
theorem due_long (w : World) (fr : Nat) (B : Option Addr) (n c : Nat) (hn : 20 < n) : Calls Try.prog 4 #[.int .u64 (fr : Int), .slice B n c] w (ret (.bool true) w) := by
  have HNW := Lib.hid (due_new w)
  have HKN := Lib.hid known_any
  have b1 : (20 : Int) < (n : Int) := by omega
  go_enter Try.func4, Try.ntmps4
  go_wp2_with (first
    | (go_at_call 7
       refine HNW.out.mono ?_
       rintro e v1 ⟨p, rfl, hs1⟩
       have HB1 := Lib.hid hs1.below
       clear hs1)
    | (go_at_call 6
       refine (HKN.out _).mono ?_
       rintro e v2 ⟨rfl, hb⟩
       have HB2 := Lib.hid (HB1.out.trans (hb.mono HB1.out.size))
       clear hb))
  go_ret
  exact ⟨rfl, HB2.out⟩
theorem due_late (w : World) (fr : Nat) (hf : 18446744073709547616 < fr) (B : Option Addr) (n c : Nat) (hn : n ≤ 20) : Calls Try.prog 4 #[.int .u64 (fr : Int), .slice B n c] w (ret (.bool true) w) := by
  have HNW := Lib.hid (due_new w)
  have HKN := Lib.hid known_any
  have b1 : ¬ (20 : Int) < (n : Int) := by omega
  have b2 : (18446744073709547616 : Int) < (fr : Int) := by omega
  go_enter Try.func4, Try.ntmps4
  go_wp2_with (first
    | (go_at_call 7
       refine HNW.out.mono ?_
       rintro e v1 ⟨p, rfl, hs1⟩
       have HB1 := Lib.hid hs1.below
       clear hs1)
    | (go_at_call 6
       refine (HKN.out _).mono ?_
       rintro e v2 ⟨rfl, hb⟩
       have HB2 := Lib.hid (HB1.out.trans (hb.mono HB1.out.size))
       clear hb))
  go_ret
  exact ⟨rfl, HB2.out⟩
set_option maxHeartbeats 2000000 in
theorem due_any (w : World) (fr : Nat) (hfr : fr ≤ 18446744073709547616) (B : Option Addr) (n c : Nat) (hn : n ≤ 20) (hnc : n ≤ c) (hc9 : c ≤ 9223372036854775807) (f : Nat → Nat) (hf : ∀ k, k < n → f k < 65536) (hr : RdC w w.heap.size B n (fun k => .int .u16 (f k : Int))) :
    Calls Try.prog 4 #[.int .u64 (fr : Int), .slice B n c] w (ret (.bool true) w) := by
  have HNW := Lib.hid (due_new w)
  have HKN := Lib.hid known_any
  have HRD := Lib.hid hr
  have HDS := Lib.hid (dS_facts hfr f)
  have HDA := Lib.hid fun (j : Nat) (hj : j < 20) => dS_arm hfr f hj
  have HTS := Lib.hid (tS_facts hfr f hn)
  have HTT := Lib.hid fun (m : Nat) (hm : m < 3000) => tS_told hfr f hn hm
  have HTL := Lib.hid fun (m : Nat) (hm : m ≤ 3000) => tS_len hfr f hn hm
  have HF := Lib.hid hf
  have b1 : ¬ (20 : Int) < (n : Int) := by omega
  have b2 : ¬ (18446744073709547616 : Int) < (fr : Int) := by omega
  have HSK : Hid ((Wh.new 20).skipE fr = 0 ∧ (Wh.new 20).skip fr = dS fr f 0) := Lib.hid ⟨rfl, rfl⟩
  clear hr hf
  go_enter Try.func4, Try.ntmps4
  go_upto_region 4 with (first
    | (go_at_call 7
       refine HNW.out.mono ?_
       rintro e v1 ⟨p, rfl, hs1⟩))
  have HS1 := Lib.hid hs1
  have hsk := hs1.skip (Wh.fit_new (by omega)) fr (by omega)
  rw [HSK.out.1, HSK.out.2] at hsk
  have HSP := Lib.hid hsk
  clear hs1 hsk HNW
  go_wp2_with (first
    | (go_at_call 8
       refine HSP.out.mono ?_
       rintro e v2 ⟨rfl, hs2, _⟩
       have HS2 := Lib.hid hs2
       clear hs2 HS1 HSP))
  go_loopw [44] (fun vj wr => ∃ j : Nat, vj = .int .i64 (j : Int) ∧ j ≤ n ∧ WSt w (fun _ => False) wr p (dS fr f j)) (fun vj _ => n - (intOf vj).toNat)
  case atStart => exact ⟨0, rfl, Nat.zero_le _, HS2.out⟩
  case round =>
    obtain ⟨j, rfl, hj, hs⟩ := hrel
    have HS := Lib.hid hs
    clear hs HS2
    by_cases hjn : j < n
    · have j1 : (j : Int) < (n : Int) := by omega
      have j0 : (0 : Int) ≤ (j : Int) := by omega
      have j2 : ((j : Int)).toNat = j := by omega
      have zj : IntKind.i64.wrap ((j : Int) + 1) = (j : Int) + 1 := by rw [IntKind.wrap_i64]; omega
      have hfj := HF.out j hjn
      have hm := Nat.mod_lt (f j) (show 0 < 3000 by omega)
      obtain ⟨b, off, rfl, hb, hc⟩ := rdc_pos HRD.out (by omega)
      have xj : wr.cell? ⟨b, off + j, none⟩ = some (.int .u16 (f j : Int)) := (HS.out.below.cell (p := ⟨b, off + j, none⟩) hb).trans (hc j hjn)
      obtain ⟨h1, h2, _⟩ := HDS.out j (by omega)
      have HA := HS.out.arm h1 (fr + f j % 3000 + 1) j (by omega)
      rw [HDA.out j (by omega)] at HA
      have HAA := Lib.hid HA
      obtain ⟨a, ha⟩ : ∃ a, a = f j % 3000 := ⟨_, rfl⟩
      have za : (f j : Int) % 3000 = (a : Int) := by omega
      have HAT : Hid (fr + f j % 3000 + 1 = fr + a + 1) := Lib.hid (by rw [ha])
      rw [HAT.out, show ((fr + a + 1 : Nat) : Int) = (fr : Int) + (a : Int) + 1 by omega] at HAA
      have zc : IntKind.u64.wrap ((fr : Int) + (a : Int)) = (fr : Int) + (a : Int) := by rw [IntKind.wrap_u64]; omega
      have zd : IntKind.u64.wrap ((fr : Int) + (a : Int) + 1) = (fr : Int) + (a : Int) + 1 := by rw [IntKind.wrap_u64]; omega
      clear HA hc h1 h2 ha
      obtain ⟨ah, hah⟩ : ∃ ah, ah = (dS fr f j).armH (fr + a + 1) := ⟨_, rfl⟩
      obtain ⟨x1, x2, hxx⟩ : ∃ x1 x2 : Int, ah = #[.int .i64 x1, .int .u64 x2] := by rw [hah]; exact armH_eq _ _
      rw [← hah, hxx] at HAA
      have HNX : Hid ((dS fr f j).arm (fr + a + 1) j = dS fr f (j + 1)) := Lib.hid (by rw [← HAT.out]; rfl)
      rw [HNX.out] at HAA
      clear hah hxx
      go_wp2_with (first
        | (go_at_call 15
           refine HAA.out.mono ?_
           rintro e v3 ⟨rfl, hs3, _⟩
           have HS3 := Lib.hid (hs3.step (below_alloc v3 (.cells #[.int .i64 x1, .int .u64 x2] 46)))
           clear hs3 HAA))
      go_roundw
      case rel => exact ⟨j + 1, by go_num, by omega, HS3.out⟩
      case measure => simp [intOf]; omega
    · obtain rfl : n = j := by omega
      have HT0 : Hid (WSt w (fun _ => False) wr p (tS fr f n 0)) := HS
      have HC0 : Hid (dc f n 0 = n) := Lib.hid (dc_first f n)
      have HCL : Hid (dc f n 3000 = 0) := Lib.hid (dc_last f n)
      have HCS : Hid (∀ m, dc f n m = (dq f n m).length + dc f n (m + 1)) := Lib.hid (dc_split f n)
      have HCE : Hid (∀ m, dc f n m ≤ n) := Lib.hid (dc_le f n)
      have HQG : Hid (∀ i m, i < n → f i % 3000 = m → (dq f n m)[(dq f i m).length]? = some i) := Lib.hid fun i m hi h => dq_get f hi h
      have HQS : Hid (∀ i m, dq f (i + 1) m = if f i % 3000 = m then dq f i m ++ [i] else dq f i m) := Lib.hid (dq_succ f)
      have HQL : Hid (∀ i m, (dq f i m).length ≤ i) := Lib.hid (dq_le f)
      clear HS HDS HDA HSK
      go_wp2_with fail
      go_loopw [11, 67] (fun vl vm wr => ∃ m : Nat, vm = .int .u64 (m : Int) ∧ vl = .int .i64 (dc f n m : Int) ∧ m ≤ 3000 ∧ WSt w (fun _ => False) wr p (tS fr f n m)) (fun _ vm _ => 3000 - (intOf vm).toNat)
      case atStart => exact ⟨0, rfl, by rw [HC0.out], by omega, HT0.out⟩
      case round =>
        obtain ⟨m, rfl, rfl, hm, hs⟩ := hrel
        have HS := Lib.hid hs
        clear hs HT0
        by_cases hm3 : m < 3000
        · have m1 : (m : Int) < 3000 := by omega
          have zm : IntKind.u64.wrap ((m : Int) + 1) = (m : Int) + 1 := by rw [IntKind.wrap_u64]; omega
          have hT := HS.out.tick (HTS.out m hm).1
          rw [(HTT.out m hm3).1, (HTT.out m hm3).2] at hT
          obtain ⟨L, hL⟩ : ∃ L, L = (dq f n m).map (dE fr f) := ⟨_, rfl⟩
          obtain ⟨q, hq⟩ : ∃ q, q = (dq f n m).length := ⟨_, rfl⟩
          have hLq : L.length = q := by rw [hL, hq, List.length_map]
          rw [← hL, hLq] at hT
          have HT := Lib.hid hT
          have HLW : Hid (∀ i, i < n → f i % 3000 = m → (dq f i m).length < q ∧ ∃ t, L[(dq f i m).length]? = some t ∧ t.what = i) := Lib.hid fun i hi h => by
            have h9 := HQG.out i m hi h
            refine ⟨by rw [hq]; exact (List.getElem?_eq_some_iff.1 h9).1, dE fr f i, ?_, rfl⟩
            rw [hL, List.getElem?_map, h9]
            rfl
          have HQN : Hid (q = (dq f n m).length) := Lib.hid hq
          have hq9 : q ≤ n := by rw [hq]; exact HQL.out n m
          have HNX : Hid ((tS fr f n m).tick = tS fr f n (m + 1)) := Lib.hid rfl
          rw [HNX.out] at HT
          clear hT hL hq hLq HS
          go_wp2_with (first
            | (go_at_call 16
               refine HT.out.mono ?_
               rintro e v4 ⟨E, dE', rfl, ho, hs4, _⟩
               have HO := Lib.hid ho
               have HS4 := Lib.hid (hs4.less (Y := fun _ => False) fun _ h => h.elim)
               clear ho hs4 HT))
          go_loopw [15, 79] (fun vk vi wr2 => ∃ i : Nat, vi = .int .i64 (i : Int) ∧ vk = .int .i64 ((dq f i m).length : Int) ∧ i ≤ n ∧ wr2 = v4) (fun _ vi _ => n - (intOf vi).toNat)
          case atStart => exact ⟨0, rfl, rfl, Nat.zero_le _, rfl⟩
          case round =>
            obtain ⟨i, rfl, rfl, hi, rfl⟩ := hrel
            by_cases hin : i < n
            · have i1 : (i : Int) < (n : Int) := by omega
              have i0 : (0 : Int) ≤ (i : Int) := by omega
              have i2 : ((i : Int)).toNat = i := by omega
              have zi : IntKind.i64.wrap ((i : Int) + 1) = (i : Int) + 1 := by rw [IntKind.wrap_i64]; omega
              have hfi := HF.out i hin
              obtain ⟨b, off, rfl, hb, hc⟩ := rdc_pos HRD.out (by omega)
              have xi : wr.cell? ⟨b, off + i, none⟩ = some (.int .u16 (f i : Int)) := (HS4.out.below.cell (p := ⟨b, off + i, none⟩) hb).trans (hc i hin)
              have hK := HQL.out i m
              obtain ⟨K, hKK⟩ : ∃ K, K = (dq f i m).length := ⟨_, rfl⟩
              have HKE := Lib.hid hKK
              rw [← hKK] at hK ⊢
              obtain ⟨a, ha⟩ : ∃ a, a = f i % 3000 := ⟨_, rfl⟩
              have za : (f i : Int) % 3000 = (a : Int) := by omega
              have HAE := Lib.hid ha
              have zk : IntKind.i64.wrap ((K : Int) + 1) = (K : Int) + 1 := by rw [IntKind.wrap_i64]; omega
              clear hc hKK
              by_cases hma : a = m
              · subst hma
                have hwi := HLW.out i hin HAE.out.symm
                rw [← HKE.out] at hwi
                obtain ⟨hkq, t, ht, hwt⟩ := hwi
                have k1 : ¬ (q : Int) ≤ (K : Int) := by omega
                have k2 : (K : Int) < (q : Int) := by omega
                have k0 : (0 : Int) ≤ (K : Int) := by omega
                have k3 : ((K : Int)).toNat = K := by omega
                obtain ⟨ge, hge, _, _, hce, _⟩ := HO.out.lies (by omega)
                have xk : wr.cell? ⟨ge, K * 3 + 2, none⟩ = some (.int .u64 (i : Int)) := by
                  rw [hce _ (by omega), rwc_at ht (by omega)]
                  show some (Value.int .u64 (t.what : Int)) = _
                  rw [hwt]
                subst hge
                have capE := HO.out.cap
                have capE9 := HO.out.cap_le
                unfold maxLen at capE9
                have HSC : Hid ((dq f (i + 1) a).length = K + 1) := Lib.hid (by rw [HQS.out, if_pos HAE.out.symm, List.length_append, ← HKE.out]; rfl)
                have zu : IntKind.u64.wrap (i : Int) = (i : Int) := by rw [IntKind.wrap_u64]; omega
                clear hce ht hwt ha
                go_wp2_with fail
                go_roundw
                case rel => exact ⟨i + 1, by go_num, by rw [HSC.out]; rfl, by omega, by first | rfl | trivial⟩
                case measure => simp [intOf]; omega
              · have a1 : ((a : Int) == (m : Int)) = false := by simp; omega
                have HSC : Hid ((dq f (i + 1) m).length = K) := Lib.hid (by rw [HQS.out, if_neg (by rw [← HAE.out]; exact hma), ← HKE.out])
                clear ha hma
                go_wp2_with fail
                go_roundw
                case rel => exact ⟨i + 1, by go_num, by rw [HSC.out], by omega, by first | rfl | trivial⟩
                case measure => simp [intOf]; omega
            · obtain rfl : n = i := by omega
              have HCM := Lib.hid (HCS.out m)
              have hcm := HCE.out m
              have hcm1 := HCE.out (m + 1)
              obtain ⟨c0, hc0⟩ : ∃ c0, c0 = dc f n m := ⟨_, rfl⟩
              obtain ⟨c1, hc1⟩ : ∃ c1, c1 = dc f n (m + 1) := ⟨_, rfl⟩
              have hsp := HCM.out
              rw [← HQN.out, ← hc0, ← hc1] at hsp
              rw [← HQN.out, ← hc0]
              rw [← hc0] at hcm
              rw [← hc1] at hcm1
              have HC1 := Lib.hid hc1
              have zc : IntKind.i64.wrap ((c0 : Int) - (q : Int)) = (c1 : Int) := by rw [IntKind.wrap_i64]; omega
              have HLN := HS4.out.len (HTS.out (m + 1) (by omega)).1.ok
              rw [HTL.out (m + 1) (by omega), ← hc1] at HLN
              have HLL := Lib.hid HLN
              clear hc0 hc1 hsp HLN HCM
              go_wp2_with (first
                | (go_at_call 12
                   refine HLL.out.mono ?_
                   rintro e v5 ⟨rfl, hbb⟩
                   have HS5 := Lib.hid (HS4.out.step hbb)
                   clear hbb))
              go_roundw
              case rel => exact ⟨m + 1, by go_num, by rw [HC1.out], by omega, HS5.out⟩
              case measure => simp [intOf]; omega
        · obtain rfl : m = 3000 := by omega
          rw [HCL.out]
          go_wp2_with (first
            | (go_at_call 6
               refine (HKN.out _).mono ?_
               rintro e v5 ⟨rfl, hbb⟩
               have HB5 := Lib.hid (HS.out.below.trans (hbb.mono HS.out.below.size))
               clear hbb))
          go_ret
          exact ⟨rfl, HB5.out⟩
end Go.Proofs.Ytkmakdhlaenaoaa
