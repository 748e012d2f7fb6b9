/- Stage 10: the document's Remove. -/
import Derived.Test.YthlnhkkjpjbmeaaWc
namespace Go.Proofs.Ythlnhkkjpjbmeaa
set_option maxRecDepth 100000
open Go.RowKit Go.Shelf
section
variable {w : World} {q : Nat} {A : Option Addr} {c : Nat} {rows : Nat → Value} {s : Sl} {G : Nat → Prop}
set_option maxHeartbeats 4000000 in
theorem rremove_any (h : RX w q A c rows s G) (hs : s.Fit) (cc : Int) : Calls Try.prog 14 #[.pointer (some ⟨q, 0, none⟩), .int .i64 cc] w fun e w' => e = .returned (.int .i64 (s.remE cc)) ∧ ∃ G', RS w' q (s.rem cc) G' ∧ Ext2 G G' w w' := by
  have x1 : w.cell? ⟨q, 1, none⟩ = some (.int .i64 (s.cells : Int)) := blk_cell h.blk 1
  have HX := Lib.hid h
  have HS := Lib.hid hs
  by_cases hc : s.hasC cc = true
  · obtain ⟨c0, c1⟩ := hasC_iff.1 hc
    obtain ⟨k, rfl⟩ := Int.eq_ofNat_of_zero_le c0
    have c0' : ¬ (k : Int) < 0 := by omega
    have c1' : ¬ (s.cells : Int) ≤ (k : Int) := by omega
    have HW := Lib.hid (rwhere_any h hs (k : Int))
    have ew : s.whi (k : Int) = s.whr k := by
      unfold Sl.whi
      rw [if_pos (by omega)]
      simp
    cases hw : s.whr k with
    | none =>
      have e1 : s.remE (k : Int) = 7 := by
        unfold Sl.remE
        rw [hc]
        simp [hw]
      have e2 : s.rem (k : Int) = s := by
        unfold Sl.rem
        rw [ew, hw]
      have e3 : s.whE (k : Int) = #[.int .i64 0, .bool false] := by
        unfold Sl.whE
        rw [ew, hw]
      rw [e3] at HW
      rw [e1, e2]
      clear e1 e2 e3 ew hc h hs
      go_enter Try.func14, Try.ntmps14
      go_wp2_with (first
        | (go_at_call 27
           refine HW.out.mono ?_
           rintro e u1 ⟨rfl, hb⟩
           have HB := Lib.hid hb
           clear hb))
      go_ret
      exact ⟨rfl, G, ⟨A, c, rows, HX.out.step HB.out⟩, .below HB.out⟩
    | some i =>
      have e1 : s.remE (k : Int) = 0 := by
        unfold Sl.remE
        rw [hc]
        simp [hw]
      have e2 : s.rem (k : Int) = s.put i ((s.at_ i).filter (· != k)) := by
        unfold Sl.rem
        rw [ew, hw]
        rfl
      have e3 : s.whE (k : Int) = #[.int .i64 (i : Int), .bool true] := by
        unfold Sl.whE
        rw [ew, hw]
      rw [e3] at HW
      rw [e1, e2]
      obtain ⟨i0, hi0, hz0, hz1, hz2⟩ := info_parts Try.infoIN
      have HI0 := Lib.hid hi0
      have HZ0 := Lib.hid hz0
      have HZ1 := Lib.hid hz1
      have HZ2 := Lib.hid hz2
      have hmem := (Sl.whr_some hs.ok).1 hw
      have hi := Sl.at_lt hmem
      have hlm := Sl.at_length hs.ok i
      have hm := hs.m
      have hn4 := hs.n
      have HIL := Lib.hid hi
      have i00 : (0 : Int) ≤ (i : Int) := by omega
      have i01 : (i : Int) < (s.ls.length : Int) := by omega
      obtain ⟨hc1, hc9⟩ := h.cap
      obtain ⟨m, hmm⟩ : ∃ m, m = (s.at_ i).length := ⟨_, rfl⟩
      have HMM := Lib.hid hmm
      rw [← hmm] at hlm
      obtain ⟨n, hn⟩ : ∃ n, n = s.ls.length := ⟨_, rfl⟩
      have HN := Lib.hid hn
      rw [← hn] at i01 hc1
      have hn4' : n ≤ 4096 := by omega
      clear e1 e2 e3 ew hc h hs hi0 hz0 hz1 hz2 hmm hmem hw hi hn
      go_enter Try.func14, Try.ntmps14
      go_upto_region 6 with (first
        | (go_at_call 27
           refine HW.out.mono ?_
           rintro e u1 ⟨rfl, hb⟩
           have HB := Lib.hid hb
           clear hb))
      have HX1 := Lib.hid (HX.out.step HB.out)
      have HQW : Hid (q < u1.heap.size) := Lib.hid (lt_heap HX1.out.blk)
      clear x1
      obtain ⟨FL, hFL⟩ : ∃ FL : Nat → List Nat, FL = fun j => ((s.at_ i).take j).filter (· != k) := ⟨_, rfl⟩
      have HFL := Lib.hid hFL
      have HF0 : Hid (FL 0 = []) := Lib.hid (by rw [hFL]; rfl)
      have HFM : Hid (FL m = (s.at_ i).filter (· != k)) := Lib.hid (by rw [hFL, HMM.out]; simp)
      have HFS : Hid (∀ j x, (s.at_ i)[j]? = some x → FL (j + 1) = if x != k then FL j ++ [x] else FL j) := Lib.hid fun j x hx => by
        rw [hFL]
        simp only [List.take_add_one, hx, List.filter_append]
        show _ ++ List.filter _ [x] = _
        by_cases e : (x != k) = true
        · rw [if_pos e, List.filter_cons_of_pos (p := fun x => x != k) e]
          rfl
        · rw [if_neg e, List.filter_cons_of_neg (p := fun x => x != k) e]
          simp
      have HFN : Hid (∀ j, (FL j).length ≤ m) := Lib.hid fun j => by
        rw [hFL, HMM.out]
        refine Nat.le_trans (List.length_filter_le _ _) ?_
        rw [List.length_take]
        omega
      obtain ⟨b, off, rfl, hbl, xr0⟩ := HX1.out.row HIL.out
      obtain ⟨Ai, ci, er, hr1, hr9, hel⟩ := HX1.out.elem HIL.out
      rw [er, ← HMM.out] at xr0
      rw [← HMM.out] at hr1
      have HEL : Hid (∀ W, Below u1.heap.size u1 W → ∀ j, j < m → ∃ b off x, Ai = some ⟨b, off, none⟩ ∧ (s.at_ i)[j]? = some x ∧ W.cell? ⟨b, off + j, none⟩ = some (.int .i64 (x : Int))) := Lib.hid fun W hW j hj => by
        obtain ⟨b', off', e, hcell⟩ := hel j (by rw [← HMM.out]; exact hj)
        obtain ⟨x, hx⟩ : ∃ x, (s.at_ i)[j]? = some x := ⟨_, List.getElem?_eq_getElem (by rw [← HMM.out]; exact hj)⟩
        rw [ints_at hx] at hcell
        have hb' : b' < u1.heap.size := by
          rcases Nat.lt_or_ge b' u1.heap.size with q | q
          · exact q
          · simp [World.cell?, Array.getElem?_eq_none q] at hcell
        exact ⟨b', off', x, e, hx, (hW.cell (p := ⟨b', off' + j, none⟩) hb').trans hcell⟩
      have HXR := Lib.hid xr0
      have HBL := Lib.hid hbl
      clear hFL er hel xr0 hbl
      go_wp2_with fail
      go_loopw [8, 7] (fun v8 v7 wr => ∃ (j : Nat) (A7 : Option Addr) (c7 : Nat), j ≤ m ∧ v8 = .int .i64 (j : Int) ∧ v7 = .slice A7 (FL j).length c7 ∧ OwnC wr u1.heap.size 3 1 A7 (FL j).length c7 (ints (FL j)) ∧ Below u1.heap.size u1 wr) (fun v _ _ => m - (intOf v).toNat)
      case atStart => exact ⟨0, none, 0, Nat.zero_le _, rfl, by rw [HF0.out]; rfl, by rw [HF0.out]; exact OwnC.nil_ _ _ _ _ _, Below.refl _ _⟩
      case round =>
        obtain ⟨j, A7, c7, hj, rfl, rfl, ho, hb⟩ := hrel
        have HO := Lib.hid ho
        have HBR := Lib.hid hb
        have x0 : wr.cell? ⟨q, 0, none⟩ = some (.slice (some ⟨b, off, none⟩) n c) := by rw [HN.out]; exact blk_cell (HX1.out.step hb).blk 0
        have xr : wr.cell? ⟨b, off + i, none⟩ = some (.slice Ai m ci) := (hb.cell (p := ⟨b, off + i, none⟩) HBL.out).trans HXR.out
        obtain ⟨L7, hL7⟩ : ∃ L, L = (FL j).length := ⟨_, rfl⟩
        have HL7 := Lib.hid hL7
        have hL9 : L7 ≤ m := by rw [hL7]; exact HFN.out j
        rw [← hL7] at HO ⊢
        clear ho hb hL7
        by_cases hlt : j < m
        · have hlt' : (j : Int) < (m : Int) := by omega
          have j0 : (0 : Int) ≤ (j : Int) := by omega
          have zj : IntKind.i64.wrap ((j : Int) + 1) = (j : Int) + 1 := by rw [IntKind.wrap_i64]; omega
          obtain ⟨b', off', x, rfl, hx, xj⟩ := HEL.out wr HBR.out j hlt
          have HXX := Lib.hid hx
          have HXJ := Lib.hid xj
          have hfs := HFS.out j x hx
          by_cases hxk : x = k
          · have hxe : ((x : Int) != (k : Int)) = false := by simp [hxk]
            rw [if_neg (by simp [hxk])] at hfs
            have HFF := Lib.hid hfs
            clear hfs hx hxk
            go_wp2_with fail
            go_roundw
            case rel => exact ⟨j + 1, A7, c7, by omega, by go_num, by rw [HFF.out, ← HL7.out], by rw [HFF.out, ← HL7.out]; exact HO.out, HBR.out⟩
            case measure => simp [intOf]; omega
          · have hxe : ((x : Int) != (k : Int)) = true := by simp; omega
            rw [if_pos (by simpa using hxk)] at hfs
            have HFF := Lib.hid hfs
            have HO6 := Lib.hid (HO.out.alloc (.cells #[.int .i64 (x : Int)] 3))
            have HB6 := Lib.hid (HBR.out.alloc HBR.out.size (.cells #[.int .i64 (x : Int)] 3))
            have HR6 : Hid (RdC (wr.alloc (.cells #[.int .i64 (x : Int)] 3)) (wr.alloc (.cells #[.int .i64 (x : Int)] 3)).heap.size (some ⟨wr.heap.size, 0, none⟩) (1 * 1) (fun _ => .int .i64 (x : Int))) := Lib.hid (.inr ⟨_, 0, rfl, by simp, fun j hj => by
              obtain rfl : j = 0 := by omega
              exact blk_cell (heap_alloc_new wr _) 0⟩)
            clear hfs hx hxk
            go_wp2_with (first
              | (at_builtin
                 refine wpList_append_vals rfl (.tmp 51) (.tmp 62) 43 rfl u1.heap.size 3 i0 (.int .i64 0) 1 Try.underlying43 HI0.out HZ0.out HZ1.out rfl (by decide) rfl HO6.out rfl HR6.out (fun _ _ => rfl) (by unfold maxLen; omega) (by rw [HZ2.out]; omega) HB6.out.size ?_
                 intro A9 c9 u9 hown9 hg9 _
                 have HO9 : Hid (OwnC u9 u1.heap.size 3 1 A9 (L7 + 1) c9 (ints (FL (j + 1)))) := Lib.hid (by
                   refine hown9.same fun y hy => ?_
                   rw [HFF.out]
                   unfold catV ints
                   rw [List.getElem?_append]
                   by_cases e : y < L7
                   · rw [if_pos (by rw [← HL7.out]; exact e), if_pos (by omega)]
                   · obtain rfl : y = L7 := by omega
                     rw [if_neg (by rw [← HL7.out]; omega), if_neg (by omega), ← HL7.out, Nat.sub_self]
                     rfl)
                 have HB9 : Hid (Below u1.heap.size u1 u9) := Lib.hid (HB6.out.grown hg9 HB6.out.size fun k hk => HO6.out.at_ k hk)
                 clear hown9 hg9))
            go_roundw
            case rel =>
              have el : (FL (j + 1)).length = L7 + 1 := by rw [HFF.out, List.length_append, ← HL7.out]; rfl
              exact ⟨j + 1, A9, c9, by omega, by go_num, by rw [el], by rw [el]; exact HO9.out, HB9.out⟩
            case measure => simp [intOf]; omega
        · obtain rfl : j = m := by omega
          have hlt' : ¬ (j : Int) < (j : Int) := by omega
          have HLR : Hid (LRow wr (fun y => u1.heap.size ≤ y ∧ y < wr.heap.size) (.slice A7 L7 c7) ((s.at_ i).filter (· != k))) := Lib.hid (by
            have := HO.out
            rw [HL7.out] at this ⊢
            rw [← HFM.out]
            exact this.lrow fun y h1 h2 => ⟨h1, h2⟩)
          clear hlt
          go_wp2_with (first
            | (go_at_call 28
               refine (rset_any (HX1.out.step HBR.out) hn4 u1.heap.size HBR.out.size HQW.out i HIL.out _ _ HLR.out).mono ?_
               rintro e u8 ⟨rfl, ⟨A8, c8, hx8⟩, hk8⟩
               have HX8 := Lib.hid hx8
               have HK8 := Lib.hid hk8
               clear hx8 hk8))
          go_ret
          refine ⟨rfl, _, ⟨A8, c8, _, HX8.out⟩, ((Kept.of_below (HB.out.trans (HBR.out.mono HB.out.size)) (fun k => k = q)).trans HK8.out fun _ _ r => r).mono fun j _ e => by subst e; exact HX.out.mem, fun j hj => ?_⟩
          rcases hj with hj | hj
          · exact .inl hj
          · exact .inr ⟨Nat.le_trans HB.out.size hj.1, hj.2⟩
  · have e1 : s.remE cc = 2 := by
      unfold Sl.remE
      rw [if_neg hc]
    have ew : s.whi cc = none := by
      unfold Sl.whi
      split
      · rw [whr_out hs.ok]
        have : ¬ (0 ≤ cc ∧ cc < (s.cells : Int)) := fun q => hc (hasC_iff.2 q)
        omega
      · rfl
    have e2 : s.rem cc = s := by
      unfold Sl.rem
      rw [ew]
    rw [e1, e2]
    have hc' : ¬ (0 ≤ cc ∧ cc < (s.cells : Int)) := fun q => hc (hasC_iff.2 q)
    obtain ⟨mm, hmm⟩ : ∃ mm, mm = s.cells := ⟨_, rfl⟩
    rw [← hmm] at x1 hc'
    clear e1 e2 ew hc h hs hmm
    by_cases a1 : cc < 0
    · clear hc'
      go_enter Try.func14, Try.ntmps14
      go_wp2_with fail
      go_ret
      exact ⟨rfl, G, ⟨A, c, rows, HX.out⟩, .below (Below.refl _ _)⟩
    · have a2 : (mm : Int) ≤ cc := by omega
      clear hc'
      go_enter Try.func14, Try.ntmps14
      go_wp2_with fail
      go_ret
      exact ⟨rfl, G, ⟨A, c, rows, HX.out⟩, .below (Below.refl _ _)⟩
end
end Go.Proofs.Ythlnhkkjpjbmeaa
