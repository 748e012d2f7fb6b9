/- Stage 19: the document's May. -/
import Derived.Test.YtfchmmojhfjibaaMgc
import Derived.Test.YtfchmmojhfjibaaVals
namespace Go.Proofs.Ytfchmmojhfjibaa
set_option maxRecDepth 100000
open Go.RowKit Go.Shelf
/-- A list of backends that lies in memory. -/
structure Lw (w : World) (B : Nat) (A : Option Addr) (c : Nat) (l : List Wt) : Prop where
  cap : l.length ≤ c
  top : c ≤ 9223372036854775807
  few : l.length ≤ 100000
  rd : RdC w B A (l.length * 2) (wf l)
theorem Lw.keep {w w' : World} {B c : Nat} {A : Option Addr} {l : List Wt} (h : Lw w B A c l) (hb : Below B w w') : Lw w' B A c l := ⟨h.cap, h.top, h.few, h.rd.keep hb⟩
theorem Lw.more {w : World} {B B' c : Nat} {A : Option Addr} {l : List Wt} (h : Lw w B A c l) (hb : B ≤ B') : Lw w B' A c l := ⟨h.cap, h.top, h.few, h.rd.more hb⟩
theorem Lw.at_ {w : World} {B c : Nat} {A : Option Addr} {l : List Wt} (h : Lw w B A c l) {i : Nat} (hi : i < l.length) : ∃ b off, A = some ⟨b, off, none⟩ ∧ b < B ∧ ∀ j, j < l.length → w.cell? ⟨b, off + j * 2, none⟩ = some (.string (wa l j).s) ∧ w.cell? ⟨b, off + j * 2 + 1, none⟩ = some (.int .i64 (wa l j).w) := by
  rcases h.rd with h0 | ⟨b, off, e, hb, hc⟩
  · omega
  · refine ⟨b, off, e, hb, fun j hj => ⟨?_, ?_⟩⟩
    · rw [hc _ (by omega), wf_s]
    · rw [Nat.add_assoc, hc _ (by omega), wf_w]
theorem sumN_bd {l : List Wt} : ∀ n, (∀ i, i < n → 0 ≤ (wa l i).w ∧ (wa l i).w ≤ 100) → 0 ≤ sumN l n ∧ sumN l n ≤ 100 * n
  | 0, _ => by unfold sumN; omega
  | n + 1, h => by
    have h1 := sumN_bd (l := l) n fun i hi => h i (by omega)
    have h2 := h n (by omega)
    unfold sumN
    omega
def oneW (b : Wt) : Prop := b.s.size ≠ 0 ∧ b.s.size ≤ 16 ∧ 0 ≤ b.w ∧ b.w ≤ 100
theorem em_str (s : ByteArray) : s.toList = [] ↔ s.size = 0 := by
  rw [ByteArray.toList_eq, Array.toList_eq_nil_iff]
  exact ⟨fun h => by show s.data.size = 0; rw [h]; rfl, fun h => Array.size_eq_zero_iff.1 h⟩
set_option maxHeartbeats 2000000 in
theorem rmmay_any (l : List Wt) (A : Option Addr) (c : Nat) (m : Int) (w : World) (h : Lw w w.heap.size A c l) : Calls Try.prog 9 #[.slice A l.length c, .int .i64 m] w (ret (.bool (mayW l m)) w) := by
  have HS := Lib.hid fun W => rsize_any m W
  have HL := Lib.hid h
  have hn9 : l.length ≤ 100000 := h.few
  obtain ⟨n, hn⟩ : ∃ n, n = l.length := ⟨_, rfl⟩
  rw [← hn] at hn9
  have HNN := Lib.hid hn
  have HF : Hid (∀ i, i < n → (¬ oneW (wa l i) ∨ ∃ k, k < i ∧ (wa l k).s = (wa l i).s) → mayW l m = false) := Lib.hid fun i hi hq => by
    rw [← Bool.not_eq_true, mayW_iff]
    intro ok
    rcases hq with q | ⟨k, hk, e⟩
    · exact q (ok.one i (by omega))
    · exact ok.two i k (by omega) hk e
  have HT : Hid ((∀ i, i < n → oneW (wa l i)) → (∀ i k, i < n → k < i → (wa l k).s ≠ (wa l i).s) → mayW l m = (szP m && (decide (n ≤ 16) && decide (sumN l n ≤ m)))) := Lib.hid fun h1 h2 => by
    rw [Bool.eq_iff_iff, mayW_iff]
    simp only [Bool.and_eq_true, decide_eq_true_eq]
    rw [hn] at h1 h2 ⊢
    exact ⟨fun ok => ⟨ok.sz, ok.len, ok.sum⟩, fun ⟨a, b, d⟩ => ⟨a, b, h1, h2, d⟩⟩
  obtain ⟨R, hR⟩ : ∃ R, R = mayW l m := ⟨_, rfl⟩
  rw [← hR] at HF HT ⊢
  rw [← hn]
  clear hR hn h
  go_enter Try.func9, Try.ntmps9
  go_wp2_with fail
  go_loopw [5, 6] (fun vs vi wr => ∃ i : Nat, i ≤ n ∧ vs = .int .i64 (sumN l i) ∧ vi = .int .i64 (i : Int) ∧ (∀ x, x < i → oneW (wa l x)) ∧ (∀ x k, x < i → k < x → (wa l k).s ≠ (wa l x).s) ∧ Below w.heap.size w wr) (fun _ vi _ => n - (intOf vi).toNat)
  case atStart => exact ⟨0, Nat.zero_le _, rfl, rfl, fun x hx => by omega, fun x k hx => by omega, Below.refl _ _⟩
  case round =>
    obtain ⟨i, hi, rfl, rfl, h1, h2, hb⟩ := hrel
    have HB := Lib.hid hb
    have H1 := Lib.hid h1
    have H2 := Lib.hid h2
    clear hb h1 h2
    by_cases hlt : i < n
    · have l1 : (i : Int) < (n : Int) := by omega
      obtain ⟨b, off, rfl, hbb, hc⟩ := HL.out.at_ (i := i) (by rw [← HNN.out]; exact hlt)
      have HBB := Lib.hid hbb
      have HC := Lib.hid hc
      clear hc hbb
      have i0 : (0 : Int) ≤ (i : Int) := by omega
      have i2 : ((i : Int)).toNat = i := by omega
      have zi : IntKind.i64.wrap ((i : Int) + 1) = (i : Int) + 1 := by rw [IntKind.wrap_i64]; omega
      go_wp2_with fail
      go_loopw [7] (fun vk wq => ∃ k : Nat, k ≤ i ∧ vk = .int .i64 (k : Int) ∧ (∀ x, x < k → (wa l x).s ≠ (wa l i).s) ∧ Below w.heap.size w wq) (fun vk _ => i - (intOf vk).toNat)
      case atStart => exact ⟨0, Nat.zero_le _, rfl, fun x hx => by omega, HB.out⟩
      case round =>
        obtain ⟨k, hk, rfl, h3, hb⟩ := hrel
        have HB3 := Lib.hid hb
        have H3 := Lib.hid h3
        clear h3
        by_cases hkl : k < i
        · have l2 : (k : Int) < (i : Int) := by omega
          have l3 : (k : Int) < (n : Int) := by omega
          have k0 : (0 : Int) ≤ (k : Int) := by omega
          have k2 : ((k : Int)).toNat = k := by omega
          have zk : IntKind.i64.wrap ((k : Int) + 1) = (k : Int) + 1 := by rw [IntKind.wrap_i64]; omega
          have xk := (hb.cell (p := ⟨b, off + k * 2, none⟩) HBB.out).trans (HC.out k (by rw [← HNN.out]; omega)).1
          have xi := (hb.cell (p := ⟨b, off + i * 2, none⟩) HBB.out).trans (HC.out i (by rw [← HNN.out]; omega)).1
          have HE := Lib.hid (tl_beq (wa l k).s (wa l i).s)
          obtain ⟨S, hS⟩ : ∃ S, S = (wa l k).s := ⟨_, rfl⟩
          obtain ⟨U, hU⟩ : ∃ U, U = (wa l i).s := ⟨_, rfl⟩
          rw [← hS] at xk
          rw [← hU] at xi
          rw [← hS, ← hU] at HE
          have HSU := Lib.hid (show S = (wa l k).s ∧ U = (wa l i).s from ⟨hS, hU⟩)
          clear hS hU hb
          by_cases e : S = U
          · have q0 : (S.toList == U.toList) = true := by rw [HE.out]; exact decide_eq_true e
            have HR : Hid (R = false) := Lib.hid (HF.out i hlt (.inr ⟨k, hkl, by rw [← HSU.out.1, ← HSU.out.2]; exact e⟩))
            clear e
            go_upto_region 8 with fail
            go_quiet (fail)
            go_wp2_with fail
            go_ret
            exact ⟨by (rw [HR.out] <;> rfl), below_drewN HB3.out _⟩
          · have q0 : (S.toList == U.toList) = false := by rw [HE.out]; exact decide_eq_false e
            have HNE : Hid ((wa l k).s ≠ (wa l i).s) := Lib.hid (by rw [← HSU.out.1, ← HSU.out.2]; exact e)
            clear e
            go_upto_region 8 with fail
            go_quiet (fail)
            go_wp2_with fail
            go_roundw
            case rel =>
              refine ⟨k + 1, by omega, by go_num, fun x hx => ?_, below_drewN HB3.out _⟩
              rcases (show x < k ∨ x = k by omega) with p | rfl
              · exact H3.out x p
              · exact HNE.out
            case measure => simp [intOf]; omega
        · obtain rfl : k = i := by omega
          have l2 : ¬ (k : Int) < (k : Int) := by omega
          have x0 := (hb.cell (p := ⟨b, off + k * 2, none⟩) HBB.out).trans (HC.out k (by rw [← HNN.out]; omega)).1
          have x1 := (hb.cell (p := ⟨b, off + k * 2 + 1, none⟩) HBB.out).trans (HC.out k (by rw [← HNN.out]; omega)).2
          have HSB := Lib.hid (sumN_bd k fun x hx => (H1.out x hx).2.2)
          have HSC : Hid (sumN l (k + 1) = sumN l k + (wa l k).w) := Lib.hid rfl
          have HE := Lib.hid (em_str (wa l k).s)
          obtain ⟨sm, hsm⟩ : ∃ sm, sm = sumN l k := ⟨_, rfl⟩
          rw [← hsm] at HSB HSC ⊢
          obtain ⟨S, hS⟩ : ∃ S, S = (wa l k).s := ⟨_, rfl⟩
          obtain ⟨W, hW⟩ : ∃ W, W = (wa l k).w := ⟨_, rfl⟩
          rw [← hS] at x0 HE
          rw [← hW] at x1 HSC
          have HSW : Hid (oneW (wa l k) ↔ S.size ≠ 0 ∧ S.size ≤ 16 ∧ 0 ≤ W ∧ W ≤ 100) := Lib.hid (by unfold oneW; rw [← hS, ← hW])
          have HFK : Hid (¬ oneW (wa l k) → R = false) := Lib.hid fun q => HF.out k hlt (.inl q)
          clear hsm hS hW hb
          by_cases e1 : S.size = 0
          · have q0 : S.toList = [] := by rw [HE.out]; exact e1
            have HR : Hid (R = false) := Lib.hid (HFK.out fun q => (HSW.out.1 q).1 e1)
            clear e1
            go_wp2_with fail
            go_ret
            exact ⟨by (rw [HR.out] <;> rfl), HB3.out⟩
          have q0 : ¬ S.toList = [] := by rw [HE.out]; exact e1
          have q1 : S.toList.isEmpty = false := by cases hq : S.toList with | nil => exact absurd hq q0 | cons _ _ => rfl
          by_cases e2 : S.size ≤ 16
          · have d2 : ¬ (16 : Int) < (S.size : Int) := by omega
            by_cases e3 : W < 0
            · have HR : Hid (R = false) := Lib.hid (HFK.out fun q => by have := (HSW.out.1 q).2.2.1; omega)
              clear e1
              go_wp2_with fail
              go_ret
              exact ⟨by (rw [HR.out] <;> rfl), HB3.out⟩
            · by_cases e4 : 100 < W
              · have HR : Hid (R = false) := Lib.hid (HFK.out fun q => by have := (HSW.out.1 q).2.2.2; omega)
                clear e1
                go_wp2_with fail
                go_ret
                exact ⟨by (rw [HR.out] <;> rfl), HB3.out⟩
              · have HO : Hid (oneW (wa l k)) := Lib.hid (HSW.out.2 ⟨e1, e2, by omega, by omega⟩)
                have zs : wrap64 (sm + W) = sm + W := IntWalk.wrap64_in _ (by have := HSB.out; omega)
                clear e1
                go_wp2_with fail
                go_roundw
                case rel =>
                  refine ⟨k + 1, by omega, by rw [HSC.out, zs], by go_num, fun x hx => ?_, fun x y hx hy => ?_, HB3.out⟩
                  · rcases (show x < k ∨ x = k by omega) with p | rfl
                    · exact H1.out x p
                    · exact HO.out
                  · rcases (show x < k ∨ x = k by omega) with p | rfl
                    · exact H2.out x y p hy
                    · exact H3.out y hy
                case measure => simp [intOf]; omega
          · have d2 : (16 : Int) < (S.size : Int) := by omega
            have HR : Hid (R = false) := Lib.hid (HFK.out fun q => e2 (HSW.out.1 q).2.1)
            clear e1 e2
            go_wp2_with fail
            go_ret
            exact ⟨by (rw [HR.out] <;> rfl), HB3.out⟩
    · obtain rfl : i = n := by omega
      have HRR := Lib.hid (HT.out H1.out H2.out)
      obtain ⟨sm, hsm⟩ : ∃ sm, sm = sumN l i := ⟨_, rfl⟩
      rw [← hsm] at HRR ⊢
      clear hsm hlt
      cases hz : szP m with
      | false =>
        rw [hz] at HS HRR
        clear hz
        go_wp2_with (first
          | (go_at_call 22
             refine (HS.out _).mono ?_
             rintro e u1 ⟨rfl, hb⟩
             have HB1 := Lib.hid (HB.out.trans (hb.mono HB.out.size))
             clear hb))
        go_ret
        exact ⟨by rw [HRR.out]; rfl, HB1.out⟩
      | true =>
        rw [hz] at HS HRR
        clear hz
        by_cases e1 : i ≤ 16
        · have d1 : (i : Int) ≤ 16 := by omega
          have HRE : Hid (R = decide (sm ≤ m)) := Lib.hid (by rw [HRR.out, decide_eq_true e1]; rfl)
          clear e1
          go_wp2_with (first
            | (go_at_call 22
               refine (HS.out _).mono ?_
               rintro e u1 ⟨rfl, hb⟩
               have HB1 := Lib.hid (HB.out.trans (hb.mono HB.out.size))
               clear hb))
          go_ret
          exact ⟨by (rw [HRE.out] <;> rfl), HB1.out⟩
        · have d1 : ¬ (i : Int) ≤ 16 := by omega
          have HRE : Hid (R = false) := Lib.hid (by rw [HRR.out, decide_eq_false e1]; rfl)
          clear e1
          go_wp2_with (first
            | (go_at_call 22
               refine (HS.out _).mono ?_
               rintro e u1 ⟨rfl, hb⟩
               have HB1 := Lib.hid (HB.out.trans (hb.mono HB.out.size))
               clear hb))
          go_ret
          exact ⟨by (rw [HRE.out] <;> rfl), HB1.out⟩
end Go.Proofs.Ytfchmmojhfjibaa
