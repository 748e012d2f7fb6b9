/- Stage 10: the document's Where, Push, Pop, Copy, New. -/
import Derived.StillTailTactics
import Derived.Test.YthlnhkkjpjbmeaaWa
namespace Go.Proofs.Ythlnhkkjpjbmeaa
set_option maxRecDepth 100000
open Go.RowKit Go.Shelf
section
variable {w : World} {q : Nat} {A : Option Addr} {c : Nat} {rows : Nat → Value} {s : Sl} {G : Nat → Prop}
/-- An element of a list. -/
theorem RX.elem (h : RX w q A c rows s G) {i : Nat} (hi : i < s.ls.length) : ∃ Ai ci, rows i = .slice Ai (s.at_ i).length ci ∧ (s.at_ i).length ≤ ci ∧ ci ≤ 9223372036854775807 ∧ ∀ k, k < (s.at_ i).length → ∃ b off, Ai = some ⟨b, off, none⟩ ∧ w.cell? ⟨b, off + k, none⟩ = some (ints (s.at_ i) k) := by
  obtain ⟨Ai, ci, e, h1, h2, h3⟩ := h.each i hi
  refine ⟨Ai, ci, e, h1, h2, fun k hk => ?_⟩
  rcases h3 with h3 | ⟨b, off, e, _, _, hc⟩
  · omega
  · exact ⟨b, off, e, hc k hk⟩
set_option maxHeartbeats 2000000 in
theorem rwhere_any (h : RX w q A c rows s G) (hs : s.Fit) (cc : Int) : Calls Try.prog 27 #[.pointer (some ⟨q, 0, none⟩), .int .i64 cc] w (ret (.tuple (s.whE cc)) w) := by
  have HX := Lib.hid h
  have HS := Lib.hid hs
  have x0 : w.cell? ⟨q, 0, none⟩ = some (.slice A s.ls.length c) := blk_cell h.blk 0
  obtain ⟨hc1, hc9⟩ := h.cap
  obtain ⟨n, hn⟩ : ∃ n, n = s.ls.length := ⟨_, rfl⟩
  have HN := Lib.hid hn
  have hn4 := hs.n
  rw [← hn] at x0 hc1 hn4
  clear h hs hn
  go_enter Try.func27, Try.ntmps27
  go_wp2_with fail
  go_loopw [6] (fun v wr => ∃ i : Nat, i ≤ n ∧ v = .int .i64 (i : Int) ∧ (∀ j, j < i → ∀ x : Nat, (x : Int) = cc → ¬ x ∈ s.at_ j) ∧ wr = w) (fun v _ => n - (intOf v).toNat)
  case atStart => exact ⟨0, Nat.zero_le _, rfl, fun j hj => absurd hj (Nat.not_lt_zero _), rfl⟩
  case round =>
    obtain ⟨i, hi, rfl, hno, rfl⟩ := hrel
    have HNO := Lib.hid hno
    clear hno
    by_cases hlt : i < n
    · have hlt' : (i : Int) < (n : Int) := by omega
      have i0 : (0 : Int) ≤ (i : Int) := by omega
      have zi : IntKind.i64.wrap ((i : Int) + 1) = (i : Int) + 1 := by rw [IntKind.wrap_i64]; omega
      have hil : i < s.ls.length := by rw [← HN.out]; exact hlt
      obtain ⟨b, off, rfl, _, xr⟩ := HX.out.row hil
      obtain ⟨Ai, ci, er, hr1, hr9, hel⟩ := HX.out.elem hil
      rw [er] at xr
      have HEL := Lib.hid hel
      have hlm := Sl.at_length HS.out.ok i
      have hm := HS.out.m
      obtain ⟨m, hmm⟩ : ∃ m, m = (s.at_ i).length := ⟨_, rfl⟩
      have HMM := Lib.hid hmm
      rw [← hmm] at xr hr1 hlm
      clear er hel hmm
      go_wp2_with fail
      go_loopw [7] (fun v wr2 => ∃ k : Nat, k ≤ m ∧ v = .int .i64 (k : Int) ∧ (∀ k', k' < k → ∀ x : Nat, (x : Int) = cc → ¬ (s.at_ i)[k']? = some x) ∧ wr2 = wr) (fun v _ => m - (intOf v).toNat)
      case atStart => exact ⟨0, Nat.zero_le _, rfl, fun j hj => absurd hj (Nat.not_lt_zero _), rfl⟩
      case round =>
        obtain ⟨k, hk, rfl, hnk, rfl⟩ := hrel
        have HNK := Lib.hid hnk
        clear hnk
        by_cases hlk : k < m
        · have hlk' : (k : Int) < (m : Int) := by omega
          have k0 : (0 : Int) ≤ (k : Int) := by omega
          have zk : IntKind.i64.wrap ((k : Int) + 1) = (k : Int) + 1 := by rw [IntKind.wrap_i64]; omega
          obtain ⟨b', off', rfl, xk⟩ := HEL.out k (by rw [← HMM.out]; exact hlk)
          obtain ⟨x, hx⟩ : ∃ x, (s.at_ i)[k]? = some x := ⟨_, List.getElem?_eq_getElem (by rw [← HMM.out]; exact hlk)⟩
          rw [ints_at hx] at xk
          by_cases hxc : (x : Int) = cc
          · have hxe : ((x : Int) == cc) = true := by simpa using hxc
            have HXC := Lib.hid hxc
            have HXI := Lib.hid hx
            clear hxc hx
            go_wp2_with fail
            go_ret2
            refine ⟨?_, Below.refl _ _⟩
            have hmem : x ∈ s.at_ i := List.mem_of_getElem? HXI.out
            have hw : s.whi cc = some i := by
              unfold Sl.whi
              rw [← HXC.out, if_pos (by omega)]
              exact (Sl.whr_some HS.out.ok).2 hmem
            unfold Sl.whE
            rw [hw]
            rfl
          · have hxe : ((x : Int) == cc) = false := by simpa using hxc
            have HXC := Lib.hid hxc
            have HXI := Lib.hid hx
            clear hxc hx
            go_wp2_with fail
            go_roundw
            case rel =>
              refine ⟨k + 1, by omega, by go_num, fun k' hk' y hy e => ?_, trivial⟩
              rcases (show k' < k ∨ k' = k by omega) with q | rfl
              · exact HNK.out k' q y hy e
              · rw [HXI.out] at e
                injection e with e
                exact HXC.out (by rw [e]; exact hy)
            case measure => simp [intOf]; omega
        · obtain rfl : k = m := by omega
          have hlk' : ¬ (k : Int) < (k : Int) := by omega
          go_wp2_with fail
          go_roundw
          case rel =>
            refine ⟨i + 1, by omega, by go_num, fun j hj x hx e => ?_, trivial⟩
            rcases (show j < i ∨ j = i by omega) with q | rfl
            · exact HNO.out j q x hx e
            · obtain ⟨k', hk', e⟩ := List.getElem_of_mem e
              exact HNK.out k' (by rw [HMM.out]; exact hk') x hx (by rw [List.getElem?_eq_getElem hk', e])
          case measure => simp [intOf]; omega
    · obtain rfl : i = n := by omega
      have hlt' : ¬ (i : Int) < (i : Int) := by omega
      clear hlt
      go_wp2_with fail
      go_ret2
      refine ⟨?_, Below.refl _ _⟩
      have hw : s.whi cc = none := by
        unfold Sl.whi
        split
        · rw [Sl.whr_none]
          intro j hj
          have hjl := Sl.at_lt hj
          exact HNO.out j (by rw [HN.out]; exact hjl) _ (by omega) hj
        · rfl
      unfold Sl.whE
      rw [hw]
      rfl
set_option maxHeartbeats 2000000 in
theorem rpush_any (h : RX w q A c rows s G) (hs : s.Fit) (l cc : Int) : Calls Try.prog 10 #[.pointer (some ⟨q, 0, none⟩), .int .i64 l, .int .i64 cc] w fun e w' => e = .returned (.int .i64 (s.pushE l cc)) ∧ ∃ G', RS w' q (s.push l cc) G' ∧ Ext2 G G' w w' := by
  have x0 : w.cell? ⟨q, 0, none⟩ = some (.slice A s.ls.length c) := blk_cell h.blk 0
  have x1 : w.cell? ⟨q, 1, none⟩ = some (.int .i64 (s.cells : Int)) := blk_cell h.blk 1
  have HX := Lib.hid h
  have HS := Lib.hid hs
  by_cases hl : s.hasL l = true ∧ s.hasC cc = true
  · obtain ⟨h1, h2⟩ := hl
    obtain ⟨l0, l1⟩ := hasL_iff.1 h1
    obtain ⟨c0, c1⟩ := hasC_iff.1 h2
    obtain ⟨i, rfl⟩ := Int.eq_ofNat_of_zero_le l0
    obtain ⟨k, rfl⟩ := Int.eq_ofNat_of_zero_le c0
    have hi : i < s.ls.length := by omega
    have hk : k < s.cells := by omega
    have l0' : ¬ (i : Int) < 0 := by omega
    have l1' : ¬ (s.ls.length : Int) ≤ (i : Int) := by omega
    have c0' : ¬ (k : Int) < 0 := by omega
    have c1' : ¬ (s.cells : Int) ≤ (k : Int) := by omega
    have HW := Lib.hid (rwhere_any h hs (k : Int))
    have ew : s.whi (k : Int) = s.whr k := by
      unfold Sl.whi
      rw [if_pos (by omega)]
      simp
    cases hw : s.whr k with
    | some j =>
      have e1 : s.pushE (i : Int) (k : Int) = 8 := by
        unfold Sl.pushE
        rw [h1, h2]
        simp [hw]
      have e2 : s.push (i : Int) (k : Int) = s := by
        unfold Sl.push
        rw [if_neg (by rw [e1]; decide)]
      have e3 : s.whE (k : Int) = #[.int .i64 (j : Int), .bool true] := by
        unfold Sl.whE
        rw [ew, hw]
      rw [e3] at HW
      rw [e1, e2]
      clear e1 e2 e3 ew h1 h2 h hs
      go_enter Try.func10, Try.ntmps10
      go_wp2_with (first
        | (go_at_call 27
           refine HW.out.mono ?_
           rintro e u1 ⟨rfl, hb⟩
           have HB := Lib.hid hb
           clear hb))
      go_ret
      exact ⟨rfl, G, ⟨A, c, rows, HX.out.step HB.out⟩, .below HB.out⟩
    | none =>
      have e1 : s.pushE (i : Int) (k : Int) = 0 := by
        unfold Sl.pushE
        rw [h1, h2]
        simp [hw]
      have e2 : s.push (i : Int) (k : Int) = s.put i (s.at_ i ++ [k]) := by
        unfold Sl.push
        rw [if_pos e1]
        rfl
      have e3 : s.whE (k : Int) = #[.int .i64 0, .bool false] := by
        unfold Sl.whE
        rw [ew, hw]
      rw [e3] at HW
      rw [e1, e2]
      obtain ⟨i0, hi0, hz0, hz1, hz2⟩ := info_parts Try.infoIN
      have HI0 := Lib.hid hi0
      have HZ0 := Lib.hid hz0
      have HZ1 := Lib.hid hz1
      have HZ2 := Lib.hid hz2
      have hlm := Sl.at_length hs.ok i
      have hm := hs.m
      have hn4 := hs.n
      have HIL := Lib.hid hi
      have i00 : (0 : Int) ≤ (i : Int) := by omega
      obtain ⟨hc1, hc9⟩ := h.cap
      obtain ⟨m, hmm⟩ : ∃ m, m = (s.at_ i).length := ⟨_, rfl⟩
      have HMM := Lib.hid hmm
      rw [← hmm] at hlm
      clear e1 e2 e3 ew h1 h2 h hs hi0 hz0 hz1 hz2 hmm
      go_enter Try.func10, Try.ntmps10
      go_upto_region 6 with (first
        | (go_at_call 27
           refine HW.out.mono ?_
           rintro e u1 ⟨rfl, hb⟩
           have HB := Lib.hid hb
           clear hb))
      have HX1 := Lib.hid (HX.out.step HB.out)
      have HQW : Hid (q < u1.heap.size) := Lib.hid (lt_heap HX1.out.blk)
      have HX2 := Lib.hid (HX1.out.step (below_alloc u1 (.cells #[] 3)))
      obtain ⟨b, off, rfl, _, xr⟩ := HX2.out.row HIL.out
      obtain ⟨Ai, ci, er, hr1, hr9, hrd⟩ := HX2.out.each i HIL.out
      rw [er] at xr
      rw [← HMM.out] at xr hr1 hrd
      have HRD := Lib.hid hrd
      have x2 : (u1.alloc (.cells #[] 3)).cell? ⟨q, 0, none⟩ = some (.slice (some ⟨b, off, none⟩) s.ls.length c) := blk_cell HX2.out.blk 0
      have HO4 : Hid (OwnC (u1.alloc (.cells #[] 3)) u1.heap.size 3 1 (some ⟨u1.heap.size, 0, none⟩) 0 0 (fun _ => .int .u64 0)) := Lib.hid (OwnC.fresh u1 _ _ rfl (Nat.le_refl _) _ _ _)
      have HR4 : Hid (RdC (u1.alloc (.cells #[] 3)) (u1.alloc (.cells #[] 3)).heap.size Ai (m * 1) (ints (s.at_ i))) := Lib.hid (by
        rw [Nat.mul_one]
        exact hrd.rdc)
      have l1'' : (i : Int) < (s.ls.length : Int) := by omega
      clear er hrd x0 x1
      go_wp2_with (first
        | (at_builtin
           refine wpList_append_vals rfl (.tmp 41) (.tmp 48) 43 rfl u1.heap.size 3 i0 (.int .i64 0) 1 Try.underlying43 HI0.out HZ0.out HZ1.out rfl (by decide) rfl HO4.out rfl HR4.out (fun _ _ => rfl) (by unfold maxLen; omega) (by rw [HZ2.out]; omega) (alloc_le u1 _) ?_
           intro A5 c5 u5 hown5 hg5 _
           have HO5 : Hid (OwnC u5 u1.heap.size 3 1 A5 m c5 (ints (s.at_ i))) := Lib.hid (by
             rw [Nat.zero_add] at hown5
             exact hown5.same fun k _ => by unfold catV; rw [if_neg (by omega)]; rfl)
           have HB5 : Hid (Below u1.heap.size u1 u5) := Lib.hid ((below_alloc u1 _).grown hg5 (alloc_le u1 _) fun k hk => HO4.out.at_ k hk)
           rw [Nat.zero_add]
           have HO6 := Lib.hid (HO5.out.alloc (.cells #[.int .i64 (k : Int)] 3))
           have HB6 := Lib.hid (HB5.out.alloc HB5.out.size (.cells #[.int .i64 (k : Int)] 3))
           have HR6 : Hid (RdC (u5.alloc (.cells #[.int .i64 (k : Int)] 3)) (u5.alloc (.cells #[.int .i64 (k : Int)] 3)).heap.size (some ⟨u5.heap.size, 0, none⟩) (1 * 1) (fun _ => .int .i64 (k : Int))) := Lib.hid (.inr ⟨_, 0, rfl, by simp, fun j hj => by
             obtain rfl : j = 0 := by omega
             exact blk_cell (heap_alloc_new u5 _) 0⟩)
           clear hown5 hg5 x2 xr)
        | (at_builtin
           refine wpList_append_vals rfl (.tmp 49) (.tmp 51) 43 rfl u1.heap.size 3 i0 (.int .i64 0) 1 Try.underlying43 HI0.out HZ0.out HZ1.out rfl (by decide) rfl HO6.out rfl HR6.out (fun _ _ => rfl) (by unfold maxLen; omega) (by rw [HZ2.out]; omega) HB6.out.size ?_
           intro A7 c7 u7 hown7 hg7 _
           have HO7 : Hid (OwnC u7 u1.heap.size 3 1 A7 (s.at_ i ++ [k]).length c7 (ints (s.at_ i ++ [k]))) := Lib.hid (by
             rw [List.length_append, ← HMM.out]
             refine hown7.same fun j hj => ?_
             unfold catV ints
             rw [List.getElem?_append]
             by_cases e : j < m
             · rw [if_pos (by rw [← HMM.out]; exact e), if_pos (by omega)]
             · obtain rfl : j = m := by omega
               rw [if_neg (by rw [← HMM.out]; omega), if_neg (by omega), ← HMM.out, Nat.sub_self]
               rfl)
           have HB7 : Hid (Below u1.heap.size u1 u7) := Lib.hid (HB6.out.grown hg7 HB6.out.size fun k hk => HO6.out.at_ k hk)
           have HL7 : Hid (LRow u7 (fun k => u1.heap.size ≤ k ∧ k < u7.heap.size) (.slice A7 (m + 1) c7) (s.at_ i ++ [k])) := Lib.hid (by
             have := HO7.out.lrow (G := fun k => u1.heap.size ≤ k ∧ k < u7.heap.size) fun k h1 h2 => ⟨h1, h2⟩
             rwa [List.length_append, ← HMM.out] at this)
           clear hown7 hg7)
        | (go_at_call 28
           refine (rset_any (HX1.out.step HB7.out) hn4 u1.heap.size HB7.out.size HQW.out i HIL.out _ _ HL7.out).mono ?_
           rintro e u8 ⟨rfl, ⟨A8, c8, hx8⟩, hk8⟩
           have HX8 := Lib.hid hx8
           have HK8 := Lib.hid hk8
           clear hx8 hk8))
      go_ret
      refine ⟨rfl, _, ⟨A8, c8, _, HX8.out⟩, ((Kept.of_below (HB.out.trans (HB7.out.mono HB.out.size)) (fun k => k = q)).trans HK8.out fun _ _ r => r).mono fun j _ e => by subst e; exact HX.out.mem, fun j hj => ?_⟩
      rcases hj with hj | hj
      · exact .inl hj
      · exact .inr ⟨Nat.le_trans HB.out.size hj.1, hj.2⟩
  · have e1 : s.pushE l cc = 2 := by
      unfold Sl.pushE
      rw [if_neg (by simpa using hl)]
    have e2 : s.push l cc = s := by
      unfold Sl.push
      rw [if_neg (by rw [e1]; decide)]
    rw [e1, e2]
    have hl' : ¬ ((0 ≤ l ∧ l < (s.ls.length : Int)) ∧ (0 ≤ cc ∧ cc < (s.cells : Int))) := fun e => hl ⟨hasL_iff.2 e.1, hasC_iff.2 e.2⟩
    clear e1 e2 hl h hs
    have fin : ∀ W, W = w → ∃ G', RS W q s G' ∧ Ext2 G G' w W := fun W e => by
      subst e
      exact ⟨G, ⟨A, c, rows, HX.out⟩, .below (Below.refl _ _)⟩
    have FIN := Lib.hid fin
    clear fin
    obtain ⟨n, hn⟩ : ∃ n, n = s.ls.length := ⟨_, rfl⟩
    obtain ⟨mm, hmm⟩ : ∃ mm, mm = s.cells := ⟨_, rfl⟩
    rw [← hn] at x0 hl'
    rw [← hmm] at x1 hl'
    clear hn hmm
    by_cases a1 : l < 0
    · clear hl'
      go_enter Try.func10, Try.ntmps10
      go_wp2_with fail
      go_ret
      exact ⟨rfl, FIN.out _ rfl⟩
    · by_cases a2 : (n : Int) ≤ l
      · clear hl'
        go_enter Try.func10, Try.ntmps10
        go_wp2_with fail
        go_ret
        exact ⟨rfl, FIN.out _ rfl⟩
      · by_cases a3 : cc < 0
        · clear hl'
          go_enter Try.func10, Try.ntmps10
          go_wp2_with fail
          go_ret
          exact ⟨rfl, FIN.out _ rfl⟩
        · have a4 : (mm : Int) ≤ cc := by omega
          clear hl'
          go_enter Try.func10, Try.ntmps10
          go_wp2_with fail
          go_ret
          exact ⟨rfl, FIN.out _ rfl⟩
end
end Go.Proofs.Ythlnhkkjpjbmeaa
