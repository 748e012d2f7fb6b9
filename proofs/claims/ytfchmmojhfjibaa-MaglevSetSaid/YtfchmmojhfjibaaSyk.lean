/- Stage 19: the landed May. -/
import Derived.Test.YtfchmmojhfjibaaSyj
import Derived.Test.YtfchmmojhfjibaaPmz
namespace Go.Proofs.Ytfchmmojhfjibaa
set_option maxRecDepth 100000
open Go.RowKit Go.Shelf
set_option maxHeartbeats 2000000 in
theorem pmgmay_any (l : List Wt) (A : Option Addr) (c : Nat) (m : Int) (w : World) (h : Lw w w.heap.size A c l) : Calls Try.prog 8 #[.slice A l.length c, .int .i64 m] w (ret (.bool (mayW l m)) w) := by
  have HS := Lib.hid (psize_any m w)
  have HL := Lib.hid h
  have hn9 : l.length ≤ 100000 := h.few
  have hcp : l.length ≤ c := h.cap
  have htp : c ≤ 9223372036854775807 := h.top
  obtain ⟨n, hn⟩ : ∃ n, n = l.length := ⟨_, rfl⟩
  rw [← hn] at hn9 hcp
  have HNN := Lib.hid hn
  have HSF : Hid (szP m = false → mayW l m = false) := Lib.hid fun q => by
    rw [← Bool.not_eq_true, mayW_iff]
    intro ok
    rw [ok.sz] at q
    cases q
  have HLF : Hid (16 < n → mayW l m = false) := Lib.hid fun q => by
    rw [← Bool.not_eq_true, mayW_iff]
    intro ok
    have := ok.len
    omega
  have HF : Hid (∀ i, i < n → (¬ oneW (wa l i) ∨ ∃ k, k < i ∧ (wa l k).s = (wa l i).s) → mayW l m = false) := Lib.hid fun i hi hq => by
    rw [← Bool.not_eq_true, mayW_iff]
    intro ok
    rcases hq with q | ⟨k, hk, e⟩
    · exact q (ok.one i (by omega))
    · exact ok.two i k (by omega) hk e
  have HT : Hid (szP m = true → n ≤ 16 → (∀ i, i < n → oneW (wa l i)) → (∀ i k, i < n → k < i → (wa l k).s ≠ (wa l i).s) → mayW l m = decide (sumN l n ≤ m)) := Lib.hid fun hz h16 h1 h2 => by
    rw [Bool.eq_iff_iff, mayW_iff, decide_eq_true_eq]
    rw [hn] at h1 h2 h16 ⊢
    exact ⟨fun ok => ok.sum, fun d => ⟨hz, h16, h1, h2, d⟩⟩
  obtain ⟨R, hR⟩ : ∃ R, R = mayW l m := ⟨_, rfl⟩
  rw [← hR] at HF HT HSF HLF ⊢
  rw [← hn]
  clear hR hn h
  cases hz : szP m with
  | false =>
    rw [hz] at HS HSF
    obtain rfl := HSF.out rfl
    clear hz HSF HF HT HLF
    go_enter Try.func8, Try.ntmps8
    go_wp2_with (first
      | (go_at_call 19
         refine HS.out.mono ?_
         rintro e u1 ⟨rfl, hb⟩
         have HB1 := Lib.hid hb
         clear hb))
    go_ret
    exact ⟨rfl, HB1.out⟩
  | true =>
  rw [hz] at HS
  have HTT := Lib.hid (HT.out hz)
  clear hz HSF HT
  by_cases h16 : n ≤ 16
  · have d16 : ¬ (16 : Int) < (n : Int) := by omega
    have HTU := Lib.hid (HTT.out h16)
    clear HTT HLF
    go_enter Try.func8, Try.ntmps8
    go_wp2_with (first
      | (go_at_call 19
         refine HS.out.mono ?_
         rintro e u1 ⟨rfl, hb⟩
         have HB1 := Lib.hid hb
         clear hb))
    go_loopw [5, 6, 7, 18] (fun vs _ _ vi wr => ∃ i : Nat, i ≤ n ∧ vs = .int .i64 (sumN l i) ∧ vi = .int .i64 (i : Int) ∧ (∀ x, x < i → oneW (wa l x)) ∧ (∀ x k, x < i → k < x → (wa l k).s ≠ (wa l x).s) ∧ Below w.heap.size w wr) (fun _ _ _ vi _ => n - (intOf vi).toNat)
    case atStart => exact ⟨0, Nat.zero_le _, rfl, rfl, fun x hx => by omega, fun x k hx => by omega, HB1.out⟩
    case round =>
      obtain ⟨i, hi, rfl, rfl, h1, h2, hb⟩ := hrel
      have HB := Lib.hid hb
      have H1 := Lib.hid h1
      have H2 := Lib.hid h2
      clear hb h1 h2
      by_cases hlt : i < n
      · have l1 : (i : Int) < (n : Int) := by omega
        obtain ⟨b, off, rfl, hbb, hc⟩ := HL.out.at_ (i := i) (by rw [← HNN.out]; exact hlt)
        have i0 : (0 : Int) ≤ (i : Int) := by omega
        have i2 : ((i : Int)).toNat = i := by omega
        have zi : IntKind.i64.wrap ((i : Int) + 1) = (i : Int) + 1 := by rw [IntKind.wrap_i64]; omega
        have x0 := (HB.out.cell (p := ⟨b, off + i * 2, none⟩) hbb).trans (hc i (by rw [← HNN.out]; omega)).1
        have x1 := (HB.out.cell (p := ⟨b, off + i * 2 + 1, none⟩) hbb).trans (hc i (by rw [← HNN.out]; omega)).2
        have HSB := Lib.hid (sumN_bd i fun x hx => (H1.out x hx).2.2)
        have HSC : Hid (sumN l (i + 1) = sumN l i + (wa l i).w) := Lib.hid rfl
        have HNE := Lib.hid (@nmE_iff l i (wa l i).s)
        have HFI := Lib.hid (HF.out i hlt)
        have HON : Hid (oneB (wa l i).s (wa l i).w = true ↔ oneW (wa l i)) := Lib.hid oneB_iff
        have HNM : Hid (∀ (D : Option Addr) (W : World), RdC W W.heap.size D (i * 2) (wf l) → Calls Try.prog 21 #[.slice D i c, .string (wa l i).s] W fun e w' => e = .returned (.bool (nmE l i (wa l i).s)) ∧ Gw W w') := Lib.hid fun D W q => pnamed_any l D i c _ W q (by omega)
        have HMY : Hid (∀ W, Calls Try.prog 20 #[.agg #[.string (wa l i).s, .int .i64 (wa l i).w]] W fun e w' => e = .returned (.bool (oneB (wa l i).s (wa l i).w)) ∧ Gw W w') := Lib.hid fun W => pmay1 _ _ W
        have H1N : Hid (oneW (wa l i) → ∀ x, x < i + 1 → oneW (wa l x)) := Lib.hid fun q x hx => by
          rcases (show x < i ∨ x = i by omega) with p | rfl
          · exact H1.out x p
          · exact q
        have H2N : Hid ((∀ k, k < i → (wa l k).s ≠ (wa l i).s) → ∀ x k, x < i + 1 → k < x → (wa l k).s ≠ (wa l x).s) := Lib.hid fun q x k hx hk => by
          rcases (show x < i ∨ x = i by omega) with p | rfl
          · exact H2.out x k p hk
          · exact q k hk
        obtain ⟨D, hs1, hr1⟩ := slice_toW (some ⟨b, off, none⟩) n c i hi hcp htp
        have HRD : Hid (∀ W, Below w.heap.size w W → RdC W W.heap.size D (i * 2) (wf l)) := Lib.hid fun W hb => hr1 W W.heap.size (wf l) (by
          have := (HL.out.keep hb).rd.more hb.size
          rw [← HNN.out] at this
          exact this)
        obtain ⟨sm, hsm⟩ : ∃ sm, sm = sumN l i := ⟨_, rfl⟩
        rw [← hsm] at HSB HSC ⊢
        obtain ⟨S, hS⟩ : ∃ S, S = (wa l i).s := ⟨_, rfl⟩
        obtain ⟨W, hW⟩ : ∃ W, W = (wa l i).w := ⟨_, rfl⟩
        rw [← hS] at x0 HON HNM HMY HNE HFI H2N
        rw [← hW] at x1 HSC HON HMY
        have HWB : Hid (oneW (wa l i) → 0 ≤ W ∧ W ≤ 100) := Lib.hid fun q => by rw [hW]; exact q.2.2
        clear hsm hS hW hc hbb hr1
        go_upto_region 7 with fail
        change Code.wp _ _ _ _ (wr.alloc (.cells #[.string S, .int .i64 W] 34))
        have hq0 := heap_alloc_new wr (.cells #[.string S, .int .i64 W] 34)
        have HB2 := Lib.hid (HB.out.alloc HB.out.size (.cells #[.string S, .int .i64 W] 34))
        obtain ⟨q, hq⟩ : ∃ q, q = wr.heap.size := ⟨_, rfl⟩
        rw [← hq] at hq0 ⊢
        clear hq x0 x1 HB
        generalize wr.alloc (.cells #[.string S, .int .i64 W] 34) = u at *
        have hql := lt_heap hq0
        have HGB : Hid (∀ n os, Below w.heap.size w (Sort.grow (u.drewN n) os)) := Lib.hid fun n os => HB2.out.trans (((Gw.refl u).more n os).below.mono HB2.out.size)
        have HQL := Lib.hid hql
        have y0 : ∀ n os, (Sort.grow (u.drewN n) os).cell? ⟨q, 0, none⟩ = some (.string S) := fun n os => (((Gw.refl u).more n os).below.cell (p := ⟨q, 0, none⟩) hql).trans (blk_cell hq0 0)
        have y1 : ∀ n os, (Sort.grow (u.drewN n) os).cell? ⟨q, 1, none⟩ = some (.int .i64 W) := fun n os => (((Gw.refl u).more n os).below.cell (p := ⟨q, 1, none⟩) hql).trans (blk_cell hq0 1)
        have hmy := fun n os => Gw.call (HMY.out (Sort.grow (u.drewN n) os))
        have hnm := fun n os => Gw.call (HNM.out D (Sort.grow (u.drewN n) os) (HRD.out _ (HGB.out n os)))
        have mixed : Try.prog.follows Departure.mixedOrders = true := by kernel_rfl
        clear hq0 hql HMY HNM
        by_cases e1 : oneW (wa l i)
        · have HO : Hid (oneB S W = true) := Lib.hid (HON.out.2 e1)
          rw [HO.out] at hmy
          have HE1 := Lib.hid e1
          clear e1
          by_cases e2 : ∃ x, x < i ∧ (wa l x).s = S
          · have HN : Hid (nmE l i S = true) := Lib.hid (HNE.out.2 e2)
            rw [HN.out] at hnm
            obtain rfl := HFI.out (.inr e2)
            clear e2
            go_quiet_grown (first
              | (go_at_call 20; refine Calls.grown_of (hmy _ _))
              | (go_at_call 21; refine Calls.grown_of (hnm _ _)))
            have HB3 := Lib.hid (HGB.out nq osq)
            clear y0 y1 hmy hnm HGB
            generalize Sort.grow (u.drewN nq) osq = v at HB3 ⊢
            go_wp2_with fail
            go_ret
            exact ⟨rfl, HB3.out⟩
          · have HN : Hid (nmE l i S = false) := Lib.hid (nmE_no fun x hx he => e2 ⟨x, hx, he⟩)
            rw [HN.out] at hnm
            have HE2 := Lib.hid (H2N.out fun k hk he => e2 ⟨k, hk, he⟩)
            have hwb := HWB.out HE1.out
            have zs : wrap64 (sm + W) = sm + W := IntWalk.wrap64_in _ (by have := HSB.out; omega)
            clear e2 hwb
            go_quiet_grown (first
              | (go_at_call 20; refine Calls.grown_of (hmy _ _))
              | (go_at_call 21; refine Calls.grown_of (hnm _ _)))
            have HB3 := Lib.hid (HGB.out nq osq)
            have y2 := y1 nq osq
            clear y0 y1 hmy hnm HGB
            generalize Sort.grow (u.drewN nq) osq = v at HB3 y2 ⊢
            go_wp2_with fail
            go_roundw
            case rel => exact ⟨i + 1, by omega, by rw [HSC.out, zs], by go_num, H1N.out HE1.out, HE2.out, HB3.out⟩
            case measure => simp [intOf]; omega
        · have HO : Hid (oneB S W = false) := Lib.hid (by rw [← Bool.not_eq_true]; exact fun q => e1 (HON.out.1 q))
          rw [HO.out] at hmy
          obtain rfl := HFI.out (.inl e1)
          clear e1 hnm
          go_quiet_grown (first
            | (go_at_call 20; refine Calls.grown_of (hmy _ _)))
          have HB3 := Lib.hid (HGB.out nq osq)
          clear y0 y1 hmy HGB
          generalize Sort.grow (u.drewN nq) osq = v at HB3 ⊢
          go_wp2_with fail
          go_ret
          exact ⟨rfl, HB3.out⟩
      · obtain rfl : i = n := by omega
        have HRR := Lib.hid (HTU.out H1.out H2.out)
        obtain ⟨sm, hsm⟩ : ∃ sm, sm = sumN l i := ⟨_, rfl⟩
        rw [← hsm] at HRR ⊢
        clear hsm hlt
        go_wp2_with fail
        go_ret
        exact ⟨by (rw [HRR.out] <;> rfl), HB.out⟩
  · have d16 : (16 : Int) < (n : Int) := by omega
    obtain rfl := HLF.out (by omega)
    clear HTT HLF HF h16
    go_enter Try.func8, Try.ntmps8
    go_wp2_with (first
      | (go_at_call 19
         refine HS.out.mono ?_
         rintro e u1 ⟨rfl, hb⟩
         have HB1 := Lib.hid hb
         clear hb))
    go_ret
    exact ⟨rfl, HB1.out⟩
end Go.Proofs.Ytfchmmojhfjibaa
