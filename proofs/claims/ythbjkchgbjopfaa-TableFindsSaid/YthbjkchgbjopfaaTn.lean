/- Stage 13: the law's ones. -/
import Derived.Test.YthbjkchgbjopfaaTm
import Derived.Test.YthbjkchgbjopfaaTf
namespace Go.Proofs.Ythbjkchgbjopfaa
set_option maxRecDepth 100000
open Go.RowKit Go.Shelf
set_option maxHeartbeats 2000000 in
theorem ones_any (M : List (Nat × Bool)) (hM : M.length ≤ 1000) (b : Nat) (w : World) (hm : RMap w b kvU (boolL M)) : Calls Try.prog 20 #[.map (some b)] w fun e w' => ∃ A c, e = .returned (.slice A (trues M) c) ∧ trues M ≤ c ∧ c ≤ 9223372036854775807 ∧ Below w.heap.size w w' := by
  obtain ⟨iU, hi, hz, hy, hx⟩ := info_parts Try.infoTU
  have HIU := Lib.hid hi
  have HZU := Lib.hid hz
  have HYU := Lib.hid hy
  have HXU := Lib.hid hx
  clear hi hz hy hx
  obtain ⟨w1, hrun, hit, hb⟩ := hm.range (P := Try.prog) Try.underlying48
  have HIT := Lib.hid hit
  have HB := Lib.hid hb
  have HRL := Lib.hid hit.lt.2
  have HBO := Lib.hid hm.lt
  obtain ⟨T, hT⟩ : ∃ T, T = trues M := ⟨_, rfl⟩
  have HT := Lib.hid hT
  rw [← hT]
  have hTl : T ≤ 1000 := by rw [hT]; exact Nat.le_trans (trues_le M) hM
  obtain ⟨r, hr⟩ : ∃ r, r = w.heap.size := ⟨_, rfl⟩
  have HR := Lib.hid hr
  rw [← hr] at hrun HIT HRL
  clear hit hb hT hr hm
  go_enter Try.func20, Try.ntmps20
  go_upto_region 2 with fail
  clear hrun
  go_loopw [2] (fun vo wr => ∃ (left : List (Nat × Bool)) (A : Option Addr) (n c : Nat) (f : Nat → Value), vo = .slice A n c ∧ OwnC wr (r + 1) 5 1 A n c f ∧ RIt wr b r kvU (boolL M) (boolL left) ∧ n + trues left = T ∧ Below w.heap.size w wr) (fun _ wr => wr.rangeLeft b r)
  case atStart => exact ⟨M, none, 0, 0, fun _ => .int .u8 0, rfl, OwnC.nil_ _ _ _ _ _, HIT.out, by rw [Nat.zero_add]; exact HT.out.symm, HB.out⟩
  case round =>
    obtain ⟨left, A, n, c, f, rfl, ho, hit, hn, hb⟩ := hrel
    have HO := Lib.hid ho
    have HB1 := Lib.hid hb
    have HL := Lib.hid hit.left
    have hlr := hit.lt.2
    rcases hit.next (P := Try.prog) with ⟨hnil, hnx⟩ | ⟨A0, x0, C0, hsp, w2, hnx, hit2, hk, hsz, hen⟩
    · have hl0 : left = [] := by
        cases left with
        | nil => rfl
        | cons p q => cases hnil
      have HN : Hid (n = T) := Lib.hid (by rw [hl0] at hn; exact hn)
      have HC1 := Lib.hid ho.cap
      have HC9 : Hid (c ≤ 9223372036854775807) := Lib.hid (by have := ho.cap_le; unfold maxLen at this; omega)
      have h1 := hnx
      clear hit hnil hnx hl0 hn ho hb hlr
      go_wp2_with fail
      go_ret
      exact ⟨A, c, by rw [← HN.out]; rfl, by rw [← HN.out]; exact HC1.out, HC9.out, HB1.out⟩
    · obtain ⟨A', y, v, C', q1, rfl, rfl, rfl⟩ := boolL_split hsp
      rw [boolL_app] at hit2
      have HIT2 := Lib.hid hit2
      have hts := trues_split y v C' A'
      rw [← q1] at hts
      have HLT : Hid ((boolL (A' ++ C')).length < (boolL left).length) := Lib.hid (by rw [q1]; simp [boolL])
      have hb2 : Below w.heap.size w w2 := hb.trans (hk.below (by rw [← HR.out]; omega) fun k e => by rw [e, HR.out]; exact Nat.le_refl _)
      have HB2 := Lib.hid hb2
      have ho2 : OwnC w2 (r + 1) 5 1 A n c f := ho.beside r (fun g e => by
        have := ho.at_ g (by rw [e]; rfl)
        omega) (fun k e => by
        rcases Nat.lt_or_ge k wr.heap.size with q | q
        · exact hk.block k q e
        · rw [Array.getElem?_eq_none q, Array.getElem?_eq_none (by omega)])
      have HO2 := Lib.hid ho2
      have hrs : r + 1 ≤ w2.heap.size := by omega
      have HRS := Lib.hid hrs
      clear ho ho2 hit hit2 hk hsz hsp q1 hb hb2 hlr hrs
      unfold kvU at hnx hen
      dsimp only at hnx hen
      cases v with
      | true =>
        have HN : Hid (n + 1 + trues (A' ++ C') = T) := Lib.hid (by
          have hts : trues left = trues (A' ++ C') + 1 := hts
          omega)
        have hn9 : n ≤ 1000 := by omega
        have HO3 := Lib.hid (HO2.out.below (below_alloc w2 (.cells #[.int .u8 (y : Int)] 5)))
        clear hts hn
        go_wp2_with (first
          | (at_builtin
             refine wpList_append_vals rfl (.tmp 13) (.tmp 15) 47 rfl (r + 1) 5 iU (.int .u8 0) 1 Try.underlying47 HIU.out HZU.out HYU.out rfl (by decide) rfl HO3.out (m := 1) rfl (rdc_one w2 5 (.int .u8 (y : Int))) (fun k _ => rfl) (by unfold maxLen; omega) (by rw [HXU.out]; omega) (Nat.le_trans HRS.out (alloc_le w2 _)) ?_
             intro A9 c9 u9 hown9 hg9 _
             have HO9 := Lib.hid hown9
             have hal : Below w.heap.size w (w2.alloc (.cells #[.int .u8 (y : Int)] 5)) := HB2.out.alloc HB2.out.size _
             have HB9 : Hid (Below w.heap.size w u9) := Lib.hid (hal.grown hg9 (Nat.le_trans HB2.out.size (alloc_le w2 _)) fun k hk => by
               have := HO3.out.at_ k hk
               have := HR.out
               omega)
             have HI9 : Hid (RIt u9 b r kvU (boolL M) (boolL (A' ++ C'))) := Lib.hid (by
               have h1 := (HIT2.out.step (below_alloc w2 (.cells #[.int .u8 (y : Int)] 5)))
               exact h1.block (hg9.block b h1.lt.1 fun e => by
                 have := HO3.out.at_ b e.symm
                 have h2 := HIT2.out.lt.1
                 have h3 := HBO.out
                 have h4 := HR.out
                 omega) (hg9.block r h1.lt.2 fun e => by
                 have := HO3.out.at_ r e.symm
                 omega))
             clear hown9 hg9 hal))
        go_roundw
        case rel => exact ⟨A' ++ C', A9, n + 1, c9, _, rfl, HO9.out, HI9.out, HN.out, HB9.out⟩
        case measure => rw [HI9.out.left, HL.out]; exact HLT.out
      | false =>
        have HN : Hid (n + trues (A' ++ C') = T) := Lib.hid (by
          have hts : trues left = trues (A' ++ C') + 0 := hts
          omega)
        clear hts hn
        go_wp2_with fail
        go_roundw
        case rel => exact ⟨A' ++ C', A, n, c, f, rfl, HO2.out, HIT2.out, HN.out, HB2.out⟩
        case measure => rw [HIT2.out.left, HL.out]; exact HLT.out
end Go.Proofs.Ythbjkchgbjopfaa
