/- Stage 19: the landed Table; what the laws ask. -/
import Derived.Test.YtfchmmojhfjibaaSyk
import Derived.Test.YtfchmmojhfjibaaSyl
import Derived.Test.YtfchmmojhfjibaaSym
import Derived.Test.YtfchmmojhfjibaaSyp
namespace Go.Proofs.Ytfchmmojhfjibaa
set_option maxRecDepth 100000
open Go.RowKit Go.Shelf
theorem pfill_nil (T cT m : Nat) (A : Option Addr) (c : Nat) (w : World) : Calls Try.prog 27 #[.slice (some ⟨T, 0, none⟩) m cT, .slice A 0 c] w fun e w' => e = .returned (.tuple #[]) ∧ w' = w := by
  go_enter Try.func27, Try.ntmps27
  go_wp2
  go_step3
  go_wp2_with fail
  try rw [Exit.noGoto_ret]
  refine bodyPost_ret (results_none rfl _ _ _) rfl ?_
  exact ⟨rfl, rfl⟩
set_option maxHeartbeats 2000000 in
theorem ptable_any (l : List Wt) (A : Option Addr) (c : Nat) (m : Int) (w : World) (h : Lw w w.heap.size A c l) : Calls Try.prog 15 #[.slice A l.length c, .int .i64 m] w (TabO l m w) := by
  have HM := Lib.hid (pmgmay_any l A c m w h)
  cases hok : mayW l m with
  | false =>
    rw [hok] at HM
    have et : tbN l m = 0 := by unfold tbN; rw [if_neg (by rw [hok]; decide)]
    have ee : tbE l m = 2 := by unfold tbE; rw [if_neg (by rw [hok]; decide)]
    have HEND : Hid (∀ w', Below w.heap.size w w' → TabO l m w (.returned (.tuple #[.slice none 0 0, .int .i64 2])) w') := Lib.hid fun w' hb => by
      refine ⟨none, 0, by rw [et, ee], by omega, by omega, .inl et, hb⟩
    clear hok et ee h
    go_enter Try.func15, Try.ntmps15
    go_wp2_with (first
      | (go_at_call 8
         refine HM.out.mono ?_
         rintro e u1 ⟨rfl, hb⟩
         have HB1 := Lib.hid hb
         clear hb))
    go_ret2
    exact HEND.out _ HB1.out
  | true =>
    rw [hok] at HM
    have ok := mayW_iff.1 hok
    obtain ⟨M, rfl, hM7, hM9, _⟩ := szP_int ok.sz
    have et : tbN l (M : Int) = M := by unfold tbN; rw [if_pos hok, Int.toNat_natCast]
    have ee : tbE l (M : Int) = 0 := by unfold tbE; rw [if_pos hok]
    have HEND : Hid (∀ (T : Nat) (w' : World), OwnC w' w.heap.size 3 1 (some ⟨T, 0, none⟩) M M (iV (tabV l M)) → Below w.heap.size w w' → TabO l (M : Int) w (.returned (.tuple #[.slice (some ⟨T, 0, none⟩) M M, .int .i64 0])) w') := Lib.hid fun T w' ho hb => by
      refine ⟨some ⟨T, 0, none⟩, M, by rw [et, ee], by rw [et]; exact Nat.le_refl _, by omega, ?_, hb⟩
      have hr := ho.rd
      rw [et, Int.toNat_natCast]
      rw [Nat.mul_one] at hr
      exact hr
    have HL := Lib.hid h
    have HT : Hid (∀ W, Below w.heap.size w W → Calls Try.prog 28 #[.slice A l.length c, .int .i64 (M : Int)] W fun e w' => ∃ A2 c2, e = .returned (.slice A2 (ordL l).length c2) ∧ OwnC w' W.heap.size 62 4 A2 (ordL l).length c2 (tkF l M (fun _ => 0)) ∧ Below W.heap.size W w') := Lib.hid fun W hW =>
      ptakers_any l A c M W ((h.keep hW).more hW.size) (by have := ok.len; omega) (fun i hi => (ok.one i hi).2.1) ok.sz
    have HF : Hid (∀ (T : Nat) (A2 : Option Addr) (c2 B : Nat) (W : World), OwnC W B 3 1 (some ⟨T, 0, none⟩) M M (fun _ => .int .i64 (-1)) → OwnC W B 62 4 A2 (ordL l).length c2 (tkF l M (fun _ => 0)) → A2 ≠ some ⟨T, 0, none⟩ → Calls Try.prog 27 #[.slice (some ⟨T, 0, none⟩) M M, .slice A2 (ordL l).length c2] W fun e w' => e = .returned (.tuple #[]) ∧ OwnC w' B 3 1 (some ⟨T, 0, none⟩) M M (iV (tabV l M)) ∧ Below B W w') := Lib.hid fun T A2 c2 B W h1 h2 h3 => by
      by_cases h0 : ordL l = []
      · have hl : (ordL l).length = 0 := by rw [h0]; rfl
        rw [hl]
        refine (pfill_nil T M M A2 c2 W).mono ?_
        rintro e w' ⟨rfl, rfl⟩
        refine ⟨rfl, h1.same fun j _ => ?_, Below.refl _ _⟩
        unfold iV
        rw [tabV_nil h0]
      · have hpos : 0 < (ordL l).length := List.length_pos_iff.2 h0
        obtain ⟨K, rfl, _⟩ := h2.lies hpos
        refine pfill_any ok.sz h0 (fun k hk => ?_) ?_ ⟨fun _ => 0, ⟨h1.same fun j _ => ?_, h2, fun e => h3 (by rw [e])⟩, fun k _ j hj => absurd hj (Nat.not_lt_zero _)⟩
        · exact (ok.one _ (ordL_lt hk).1).2.2.2
        · have h4 := ordN_len l l.length
          have h5 := ok.len
          unfold ordL
          omega
        · rfl
    obtain ⟨n, hn⟩ : ∃ n, n = l.length := ⟨_, rfl⟩
    obtain ⟨P, hP⟩ : ∃ P, P = (ordL l).length := ⟨_, rfl⟩
    rw [← hn] at HM HT ⊢
    rw [← hP] at HT HF
    clear hok ok et ee h hn hP
    go_enter Try.func15, Try.ntmps15
    go_upto_region 3 with (first
      | (go_at_call 8
         refine HM.out.mono ?_
         rintro e u1 ⟨rfl, hb⟩
         have HB1 := Lib.hid hb
         clear hb))
    have HB2 := Lib.hid (HB1.out.alloc HB1.out.size (.cells #[.int .i64 (-1)] 3))
    have HRP := Lib.hid (prepeat_any M (by omega) (by omega) (some ⟨u1.heap.size, 0, none⟩) 1 (-1) (u1.alloc (.cells #[.int .i64 (-1)] 3)) (.inr ⟨_, 0, rfl, by simp, fun j hj => by
      obtain rfl : j = 0 := by omega
      exact blk_cell (heap_alloc_new u1 _) 0⟩))
    go_wp2_with (first
      | (go_at_call 26
         refine HRP.out.mono ?_
         rintro e u3 ⟨T, rfl, h1, h2⟩
         have HO3 := Lib.hid h1
         have HB3 := Lib.hid (HB2.out.trans (h2.mono HB2.out.size))
         have HTK := Lib.hid (HT.out u3 HB3.out)
         have HO3L := Lib.hid (h1.le HB2.out.size)
         have HTL : Hid (T < u3.heap.size) := Lib.hid (by
           obtain ⟨g, e, _, hg, _⟩ := h1.lies (by omega)
           injection e with e
           injection e with e
           rw [e]
           exact hg)
         clear h1 h2)
      | (go_at_call 28
         refine HTK.out.mono ?_
         rintro e u4 ⟨A2, c2, rfl, h1, h2⟩
         have HB4 := Lib.hid (HB3.out.trans (h2.mono HB3.out.size))
         have HNE : Hid (A2 ≠ some ⟨T, 0, none⟩) := Lib.hid fun e => by
           have h3 := h1.at_ T (by rw [e]; rfl)
           have := HTL.out
           omega
         have HFL := Lib.hid (HF.out T A2 c2 w.heap.size u4 (HO3L.out.below h2) (h1.le HB3.out.size) HNE.out)
         clear h1 h2)
      | (go_at_call 27
         refine HFL.out.mono ?_
         rintro e u5 ⟨rfl, h1, h2⟩
         have HO5 := Lib.hid h1
         have HB5 := Lib.hid (HB4.out.trans h2)
         clear h1 h2))
    go_ret2
    exact HEND.out T _ HO5.out HB5.out
theorem mgP : MgP where
  may := pmgmay_any
  order := porder_any
  table := ptable_any
  shares := fun t A n c N w h h9 _ _ => pshares_any t A n c N w h h9
end Go.Proofs.Ytfchmmojhfjibaa
