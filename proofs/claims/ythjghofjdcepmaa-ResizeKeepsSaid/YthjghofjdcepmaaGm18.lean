import Derived.Test.YthjghofjdcepmaaGm17
/- Stage 14: the document's Put. -/
namespace Go.Proofs.Ythjghofjdcepmaa
set_option maxRecDepth 100000
open Go.RowKit Go.Shelf
section
variable {w w' : World} {q qn qx : Nat} {s : Gr} {G Gn Gx : Nat → Prop}
/-- The next one, or the one of now, is another one. -/
theorem RG.putX (h : RG w q qn qx s G Gn Gx) (hm : s.mv = true) {t : Tb} {Gy : Nat → Prop} (ha : RTA w' qx t Gy) (hx : ExtG Gx Gy w w') : RG w' q qn qx ⟨s.now, t, true, s.most, s.at_⟩ (fun k => G k ∨ w.heap.size ≤ k ∧ k < w'.heap.size) Gn Gy ∧ ExtG G (fun k => G k ∨ w.heap.size ≤ k ∧ k < w'.heap.size) w w' := by
  obtain ⟨a1, a2⟩ := h.apX hm
  have hq := h.blk
  rw [hm] at hq
  have ho := h.old
  have hz := hx.kept.size
  refine ⟨⟨(hx.kept.block q (ho q h.mem) a1).trans hq, h.now.keep hx.kept fun k hn hg => a2 k hg hn, fun _ => ha, .inl h.mem, fun k hk => .inl (h.subN k hk), fun _ k hk => (hx.sub k hk).imp (h.subX hm k) id, h.apN, fun _ => ⟨fun hk => ?_, fun k hk hn => ?_⟩, fun k hk => ?_⟩, fun k hk => hk, hx.kept.mono fun k _ hk => h.subX hm k hk⟩
  · rcases hx.sub q hk with r | r
    · exact a1 r
    · have := ho q h.mem
      omega
  · rcases hx.sub k hk with r | r
    · exact a2 k r hn
    · have := ho k (h.subN k hn)
      omega
  · rcases hk with hk | hk
    · have := ho k hk
      omega
    · exact hk.2
theorem RG.setN (h : RG w q qn qx s G Gn Gx) {t : Tb} {Gy : Nat → Prop} (ha : RTA w' qn t Gy) (hx : ExtG Gn Gy w w') : RG w' q qn qx ⟨t, s.next, s.mv, s.most, s.at_⟩ (fun k => G k ∨ w.heap.size ≤ k ∧ k < w'.heap.size) Gy Gx ∧ ExtG G (fun k => G k ∨ w.heap.size ≤ k ∧ k < w'.heap.size) w w' := by
  have ho := h.old
  have hz := hx.kept.size
  refine ⟨⟨(hx.kept.block q (ho q h.mem) h.apN).trans h.blk, ha, fun e => (h.next e).keep hx.kept fun k hg hn => (h.apX e).2 k hg hn, .inl h.mem, fun k hk => (hx.sub k hk).imp (h.subN k) id, fun e k hk => .inl (h.subX e k hk), fun hk => ?_, fun e => ⟨(h.apX e).1, fun k hk hn => ?_⟩, fun k hk => ?_⟩, fun k hk => hk, hx.kept.mono fun k _ hk => h.subN k hk⟩
  · rcases hx.sub q hk with r | r
    · exact h.apN r
    · have := ho q h.mem
      omega
  · rcases hx.sub k hn with r | r
    · exact (h.apX e).2 k hk r
    · have := ho k (h.subX e k hk)
      omega
  · rcases hk with hk | hk
    · have := ho k hk
      omega
    · exact hk.2
theorem RG.putN (h : RG w q qn qx s G Gn Gx) (hm : s.mv = false) {t : Tb} {Gy : Nat → Prop} (ha : RTA w' qn t Gy) (hx : ExtG Gn Gy w w') : RG w' q qn qx ⟨t, s.next, false, s.most, s.at_⟩ (fun k => G k ∨ w.heap.size ≤ k ∧ k < w'.heap.size) Gy Gx ∧ ExtG G (fun k => G k ∨ w.heap.size ≤ k ∧ k < w'.heap.size) w w' := by
  have h1 := h.setN ha hx
  rw [hm] at h1
  exact h1
set_option maxHeartbeats 4000000 in
theorem rgput_any (h : RG w q qn qx s G Gn Gx) (hs : s.Ok) (H X : Nat) (hH : H < 18446744073709551616) (hX : X < 4294967296) : Calls Try.prog 11 #[.pointer (some ⟨q, 0, none⟩), .agg #[.int .u64 (H : Int), .int .u32 (X : Int)]] w fun e w' => e = .returned (.int .i64 (s.ptE H)) ∧ ∃ G', RGA w' q (s.pt H X) G' ∧ ExtG G G' w w' := by
  have HHH := Lib.hid hH
  have HXX := Lib.hid hX
  have HS := Lib.hid hs
  have HB0 : Hid (Below w.heap.size w (w.alloc (.cells #[.int .u64 (H : Int), .int .u32 (X : Int)] 34))) := Lib.hid (below_alloc w _)
  have HE0 : Hid ((w.alloc (.cells #[.int .u64 (H : Int), .int .u32 (X : Int)] 34)).heap[w.heap.size]? = some (.cells #[.int .u64 (H : Int), .int .u32 (X : Int)] 34 (0, 0))) := Lib.hid (heap_alloc_new w _)
  have HG0 := Lib.hid (h.step HB0.out)
  have HBE := Lib.hid (rbegins_any HG0.out hs)
  have HPT : Hid (s.pt H X = if s.begun.full then s.begun else s.begun.laid H X) := Lib.hid rfl
  obtain ⟨EE0, hEE0⟩ : ∃ E, E = s.ptE H := ⟨_, rfl⟩
  have HPE : Hid (EE0 = if s.begun.full then 9 else s.begun.tgt.ptE H) := Lib.hid hEE0
  rw [← hEE0]
  have HO1 := Lib.hid (Gr.ok_begun hs)
  obtain ⟨r, hr⟩ : ∃ r, r = w.heap.size := ⟨_, rfl⟩
  rw [← hr] at HE0
  clear h hs hH hX hEE0
  go_enter Try.func11, Try.ntmps11
  go_upto_region 1 with fail
  change Code.wp _ _ _ _ (w.alloc (.cells #[.int .u64 (H : Int), .int .u32 (X : Int)] 34))
  rw [← hr]
  clear hr
  generalize w.alloc (.cells #[.int .u64 (H : Int), .int .u32 (X : Int)] 34) = u0 at *
  obtain ⟨s1, hs1⟩ : ∃ s1, s1 = s.begun := ⟨_, rfl⟩
  have HS1 := Lib.hid hs1
  rw [← hs1] at HPT HPE HO1
  clear hs1
  cases hb : s.begs with
  | true =>
    rw [hb] at HBE
    have HMV : Hid (s1.mv = true) := Lib.hid (by rw [HS1.out]; unfold Gr.begun; rw [if_pos hb])
    have HSZ := Lib.hid fun W (k : Below u0.heap.size u0 W) => rsize_any (HG0.out.step k) HS.out
    have hso := Gr.size_ok HS.out
    have HTN := Lib.hid fun W => rtnew_any W s.size (by omega) hso.2
    have HS1E : Hid (s1 = ⟨s.now, Tb.new s.size, true, s.most, 0⟩) := Lib.hid (by rw [HS1.out]; unfold Gr.begun; rw [if_pos hb])
    obtain ⟨sz, hsz⟩ : ∃ sz, sz = s.size := ⟨_, rfl⟩
    rw [← hsz] at HSZ HTN HS1E
    clear hb hso hsz
    go_upto_region 2 with (first
      | (go_at_call 34
         refine HBE.out.mono ?_
         rintro e u1 ⟨rfl, hb⟩
         have HB1 := Lib.hid hb
         clear hb))
    go_upto_region 3 with (first
      | (go_at_call 35
         refine (HSZ.out u1 HB1.out).mono ?_
         rintro e u2 ⟨rfl, hb⟩
         have HB2 := Lib.hid (HB1.out.trans (hb.mono HB1.out.size))
         clear hb)
      | (go_at_call 27
         refine (HTN.out u2).mono ?_
         rintro e u3 ⟨qy, Gy, rfl, ha, hg, hb⟩
         have HA3 := Lib.hid ha
         have HGY := Lib.hid hg
         have HB3 := Lib.hid (HB2.out.trans (hb.mono HB2.out.size))
         have HZ3 := Lib.hid HB2.out.size
         have hq3 := (HG0.out.step HB3.out).blk
         have z1 : u3.cell? ⟨q, 1, none⟩ = some (.pointer (if s.mv then some ⟨qx, 0, none⟩ else none)) := blk_cell hq3 1
         have f1 := blk_free hq3 1
         have HQ3 := Lib.hid hq3
         clear ha hg hb hq3))
    have HQ4 : Hid ((u3.setCell ⟨q, 1, none⟩ (.pointer (some ⟨qy, 0, none⟩))).heap[q]? = some (.cells #[.pointer (some ⟨qn, 0, none⟩), .pointer (some ⟨qy, 0, none⟩), .bool s.mv, .int .i64 (s.most : Int), .int .i64 (s.at_ : Int)] 63 (0, 0))) := Lib.hid (blk_set HQ3.out 1 _)
    have HK4 : Hid (Kept (fun k => k = q) u3 (u3.setCell ⟨q, 1, none⟩ (.pointer (some ⟨qy, 0, none⟩)))) := Lib.hid ((Kept.refl (fun k => k = q) u3).setCell (p := ⟨q, 1, none⟩) (.inl rfl) _)
    clear z1 f1
    generalize u3.setCell ⟨q, 1, none⟩ (.pointer (some ⟨qy, 0, none⟩)) = u4 at *
    have z2 : u4.cell? ⟨q, 2, none⟩ = some (.bool s.mv) := blk_cell HQ4.out 2
    have f2 := blk_free HQ4.out 2
    go_upto_region 4 with fail
    have HQ41 : Hid ((u4.setCell ⟨q, 2, none⟩ (.bool true)).heap[q]? = some (.cells #[.pointer (some ⟨qn, 0, none⟩), .pointer (some ⟨qy, 0, none⟩), .bool true, .int .i64 (s.most : Int), .int .i64 (s.at_ : Int)] 63 (0, 0))) := Lib.hid (blk_set HQ4.out 2 _)
    have HK41 := Lib.hid (HK4.out.setCell (p := ⟨q, 2, none⟩) (.inl rfl) (.bool true))
    clear z2 f2
    generalize u4.setCell ⟨q, 2, none⟩ (.bool true) = u41 at *
    have z3 : u41.cell? ⟨q, 4, none⟩ = some (.int .i64 (s.at_ : Int)) := blk_cell HQ41.out 4
    have f3 := blk_free HQ41.out 4
    go_upto_region 5 with fail
    have HQ5 : Hid ((u41.setCell ⟨q, 4, none⟩ (.int .i64 0)).heap[q]? = some (.cells #[.pointer (some ⟨qn, 0, none⟩), .pointer (some ⟨qy, 0, none⟩), .bool true, .int .i64 (s.most : Int), .int .i64 0] 63 (0, 0))) := Lib.hid (blk_set HQ41.out 4 _)
    have HK5 := Lib.hid (HK41.out.setCell (p := ⟨q, 4, none⟩) (.inl rfl) (.int .i64 0))
    clear z3 f3
    generalize u41.setCell ⟨q, 4, none⟩ (.int .i64 0) = u5 at *
    have HG5 : Hid (RG u5 q qn qy s1 (fun k => G k ∨ u0.heap.size ≤ k ∧ k < u5.heap.size) Gn Gy) := Lib.hid (by
      have hG := HG0.out
      have hz := HK5.out.size
      have hz3 := HB3.out.size
      rw [HS1E.out]
      refine ⟨HQ5.out, (hG.now.step HB3.out).keep HK5.out fun k hk e => hG.apN (by rw [← e]; exact hk), fun _ => HA3.out.keep HK5.out fun k hk e => ?_, .inl hG.mem, fun k hk => .inl (hG.subN k hk), fun _ k hk => .inr ?_, hG.apN, fun _ => ⟨fun hk => ?_, fun k hk hn => ?_⟩, fun k hk => ?_⟩
      · have h1 := (HGY.out k hk).1
        have h2 := hG.old q hG.mem
        have h3 := HZ3.out
        omega
      · have h1 := HGY.out k hk
        have h3 := HZ3.out
        omega
      · have h1 := (HGY.out q hk).1
        have h2 := hG.old q hG.mem
        have h3 := HZ3.out
        omega
      · have h1 := (HGY.out k hk).1
        have h2 := hG.old k (hG.subN k hn)
        have h3 := HZ3.out
        omega
      · rcases hk with hk | hk
        · have := hG.old k hk
          omega
        · exact hk.2)
    have HE5 : Hid (u5.heap[r]? = some (.cells #[.int .u64 (H : Int), .int .u32 (X : Int)] 34 (0, 0))) := Lib.hid ((HK5.out.block r (Nat.lt_of_lt_of_le (lt_heap HE0.out) HB3.out.size) (fun e => by
      have h1 := HE0.out
      rw [e, HG0.out.blk] at h1
      injection h1 with h1
      injection h1 with h1 h2
      exact absurd h2 (by decide))).trans ((HB3.out.block r (lt_heap HE0.out)).trans HE0.out))
    have HX5 : Hid (ExtG G (fun k => G k ∨ u0.heap.size ≤ k ∧ k < u5.heap.size) w u5) := Lib.hid ((ExtG.of_below HB0.out).trans ⟨fun k hk => hk, ((Kept.of_below HB3.out G).trans HK5.out fun k _ e => by rw [e]; exact HG0.out.mem)⟩)
    clear HBE HG0 HE0 HQ5 HK5 HQ41 HK41 HQ4 HK4 HQ3 HA3 HGY HSZ HTN
    have HTA : Hid (RTA u5 qy s1.next Gy) := Lib.hid (HG5.out.next HMV.out)
    have HTO : Hid (s1.next.Ok) := Lib.hid (HO1.out.next HMV.out)
    have HENT := Lib.hid (tent_c HTA.out HTO.out)
    have HMRK := Lib.hid (tmrk_c HTA.out HTO.out)
    have HENN := Lib.hid (tent_c HG5.out.now HO1.out.now)
    obtain ⟨AE, cE, hE⟩ := tlen_c HTA.out
    have HLE := Lib.hid hE
    obtain ⟨le1, le2⟩ := tent_le HTO.out
    have le3 := (tent_le HO1.out.now).1
    have le4 := HTO.out.top
    have hq := HG5.out.blk
    rw [HMV.out] at hq
    have x0 : u5.cell? ⟨q, 0, none⟩ = some (.pointer (some ⟨qn, 0, none⟩)) := blk_cell hq 0
    have x1 : u5.cell? ⟨q, 1, none⟩ = some (.pointer (some ⟨qy, 0, none⟩)) := blk_cell hq 1
    have x2 : u5.cell? ⟨q, 2, none⟩ = some (.bool true) := blk_cell hq 2
    have HFULL : Hid (s1.full = decide (s1.next.n / 4 * 3 < s1.next.entries + s1.next.marks + s1.now.entries + 1)) := Lib.hid (by unfold Gr.full Gr.tgt Gr.more; rw [HMV.out]; rfl)
    have HLAID : Hid (s1.laid H X = ⟨s1.now, s1.next.pt H X, true, s1.most, s1.at_⟩) := Lib.hid (by unfold Gr.laid; rw [HMV.out]; rfl)
    have HTGE : Hid (s1.tgt.ptE H = s1.next.ptE H) := Lib.hid (by unfold Gr.tgt; rw [HMV.out]; rfl)
    obtain ⟨n, hn⟩ : ∃ n, n = s1.next.n := ⟨_, rfl⟩
    obtain ⟨en, hen⟩ : ∃ n, n = s1.next.entries := ⟨_, rfl⟩
    obtain ⟨mk, hmk⟩ : ∃ n, n = s1.next.marks := ⟨_, rfl⟩
    obtain ⟨mo, hmo⟩ : ∃ n, n = s1.now.entries := ⟨_, rfl⟩
    rw [← hn] at HLE HFULL le4
    rw [← hen] at HENT HFULL le1
    rw [← hmk] at HMRK HFULL le2
    rw [← hmo] at HENN HFULL le3
    have zq : (n : Int).tdiv 4 = ((n / 4 : Nat) : Int) := by rw [Int.tdiv_eq_ediv_of_nonneg (by omega)]; omega
    have zq2 : (n : Int) / 4 = ((n / 4 : Nat) : Int) := by omega
    obtain ⟨n4, hn4⟩ : ∃ k, k = n / 4 := ⟨_, rfl⟩
    rw [← hn4] at zq zq2 HFULL
    have zw : IntKind.i64.wrap (n4 : Int) = (n4 : Int) := by rw [IntKind.wrap_i64]; omega
    have zw3 : IntKind.i64.wrap ((n4 : Int) * 3) = (n4 : Int) * 3 := by rw [IntKind.wrap_i64]; omega
    have za : IntKind.i64.wrap ((en : Int) + (mk : Int)) = (en : Int) + (mk : Int) := by rw [IntKind.wrap_i64]; omega
    have zb : IntKind.i64.wrap ((en : Int) + (mk : Int) + (mo : Int)) = (en : Int) + (mk : Int) + (mo : Int) := by rw [IntKind.wrap_i64]; omega
    have zc : IntKind.i64.wrap ((en : Int) + (mk : Int) + (mo : Int) + 1) = (en : Int) + (mk : Int) + (mo : Int) + 1 := by rw [IntKind.wrap_i64]; omega
    clear hn hen hmk hmo hn4 hE hq
    go_upto_region 10 with (first
      | (go_at_call 36
         refine (HENN.out u5 (Below.refl _ _)).mono ?_
         rintro e u6 ⟨rfl, hb⟩
         have HB6 := Lib.hid hb
         clear hb))
    clear x0 x1 x2
    have x5 : u6.cell? ⟨qy, 2, none⟩ = some (.slice AE n cE) := HLE.out u6 HB6.out
    go_upto_region 11 with fail
    clear x5
    by_cases cf : n4 * 3 < en + mk + mo + 1
    · have cf' : (n4 : Int) * 3 < (en : Int) + (mk : Int) + (mo : Int) + 1 := by omega
      have HF : Hid (s1.full = true) := Lib.hid (by rw [HFULL.out]; exact decide_eq_true cf)
      clear cf
      go_wp2_with (first
      | (go_at_call 36
         refine (HENT.out _ HB6.out).mono ?_
         rintro e u7 ⟨rfl, hb⟩
         have HB7 := Lib.hid (HB6.out.trans (hb.mono HB6.out.size))
         clear hb)
      | (go_at_call 37
         refine (HMRK.out _ HB7.out).mono ?_
         rintro e u8 ⟨rfl, hb⟩
         have HB8 := Lib.hid (HB7.out.trans (hb.mono HB7.out.size))
         clear hb))
      go_ret
      refine ⟨by rw [HPE.out, HF.out]; rfl, _, ?_, HX5.out.trans (ExtG.of_below HB8.out)⟩
      rw [HPT.out, HF.out, if_pos rfl]
      exact ⟨_, _, _, _, HG5.out.step HB8.out⟩
    · have cf' : ¬ (n4 : Int) * 3 < (en : Int) + (mk : Int) + (mo : Int) + 1 := by omega
      have HF : Hid (s1.full = false) := Lib.hid (by rw [HFULL.out]; exact decide_eq_false cf)
      clear cf
      go_upto_region 13 with (first
      | (go_at_call 36
         refine (HENT.out _ HB6.out).mono ?_
         rintro e u7 ⟨rfl, hb⟩
         have HB7 := Lib.hid (HB6.out.trans (hb.mono HB6.out.size))
         clear hb)
      | (go_at_call 37
         refine (HMRK.out _ HB7.out).mono ?_
         rintro e u8 ⟨rfl, hb⟩
         have HB8 := Lib.hid (HB7.out.trans (hb.mono HB7.out.size))
         clear hb))
      have HE8 : Hid (u8.heap[r]? = some (.cells #[.int .u64 (H : Int), .int .u32 (X : Int)] 34 (0, 0))) := Lib.hid ((HB8.out.block r (lt_heap HE5.out)).trans HE5.out)
      have e0 : u8.cell? ⟨r, 0, none⟩ = some (.int .u64 (H : Int)) := blk_cell HE8.out 0
      have e1 : u8.cell? ⟨r, 1, none⟩ = some (.int .u32 (X : Int)) := blk_cell HE8.out 1
      have HTA8 := Lib.hid (HTA.out.step HB8.out)
      have HG8 := Lib.hid (HG5.out.step HB8.out)
      have HPP := Lib.hid (rput_ext HTA8.out HTO.out H X HHH.out HXX.out)
      obtain ⟨EI, hEI⟩ : ∃ E, E = s1.next.ptI H := ⟨_, rfl⟩
      obtain ⟨EE, hEE⟩ : ∃ E, E = s1.next.ptE H := ⟨_, rfl⟩
      rw [← hEI, ← hEE] at HPP
      have HEE := Lib.hid hEE
      clear hEI hEE
      go_wp2_with (first
        | (go_at_call 38
           refine HPP.out.mono ?_
           rintro e u9 ⟨rfl, G9, ha, hx⟩
           have HA9 := Lib.hid ha
           have HX9 := Lib.hid hx
           clear ha hx e0 e1))
      go_ret
      refine ⟨by rw [HPE.out, HF.out, HTGE.out, ← HEE.out]; rfl, _, ?_, (HX5.out.trans (ExtG.of_below HB8.out)).trans (HG8.out.putX HMV.out HA9.out HX9.out).2⟩
      rw [HPT.out, HF.out, if_neg Bool.false_ne_true, HLAID.out]
      exact ⟨_, _, _, _, (HG8.out.putX HMV.out HA9.out HX9.out).1⟩
  | false =>
    rw [hb] at HBE
    have HS1E : Hid (s1 = s) := Lib.hid (by rw [HS1.out]; unfold Gr.begun; rw [if_neg (by rw [hb]; exact Bool.false_ne_true)])
    clear hb
    cases hmv : s.mv with
    | true =>
      have HMV : Hid (s1.mv = true) := Lib.hid (by rw [HS1E.out]; exact hmv)
      clear hmv
      go_upto_region 5 with (first
        | (go_at_call 34
           refine HBE.out.mono ?_
           rintro e u5 ⟨rfl, hb⟩
           have HB5 := Lib.hid hb
           clear hb))
      have HG5 : Hid (RG u5 q qn qx s1 G Gn Gx) := Lib.hid (by rw [HS1E.out]; exact HG0.out.step HB5.out)
      have HE5 : Hid (u5.heap[r]? = some (.cells #[.int .u64 (H : Int), .int .u32 (X : Int)] 34 (0, 0))) := Lib.hid ((HB5.out.block r (lt_heap HE0.out)).trans HE0.out)
      have HX5 : Hid (ExtG G G w u5) := Lib.hid (ExtG.of_below (HB0.out.trans (HB5.out.mono HB0.out.size)))
      clear HBE HG0 HE0
      have HTA : Hid (RTA u5 qx s1.next Gx) := Lib.hid (HG5.out.next HMV.out)
      have HTO : Hid (s1.next.Ok) := Lib.hid (HO1.out.next HMV.out)
      have HENT := Lib.hid (tent_c HTA.out HTO.out)
      have HMRK := Lib.hid (tmrk_c HTA.out HTO.out)
      have HENN := Lib.hid (tent_c HG5.out.now HO1.out.now)
      obtain ⟨AE, cE, hE⟩ := tlen_c HTA.out
      have HLE := Lib.hid hE
      obtain ⟨le1, le2⟩ := tent_le HTO.out
      have le3 := (tent_le HO1.out.now).1
      have le4 := HTO.out.top
      have hq := HG5.out.blk
      rw [HMV.out] at hq
      have x0 : u5.cell? ⟨q, 0, none⟩ = some (.pointer (some ⟨qn, 0, none⟩)) := blk_cell hq 0
      have x1 : u5.cell? ⟨q, 1, none⟩ = some (.pointer (some ⟨qx, 0, none⟩)) := blk_cell hq 1
      have x2 : u5.cell? ⟨q, 2, none⟩ = some (.bool true) := blk_cell hq 2
      have HFULL : Hid (s1.full = decide (s1.next.n / 4 * 3 < s1.next.entries + s1.next.marks + s1.now.entries + 1)) := Lib.hid (by unfold Gr.full Gr.tgt Gr.more; rw [HMV.out]; rfl)
      have HLAID : Hid (s1.laid H X = ⟨s1.now, s1.next.pt H X, true, s1.most, s1.at_⟩) := Lib.hid (by unfold Gr.laid; rw [HMV.out]; rfl)
      have HTGE : Hid (s1.tgt.ptE H = s1.next.ptE H) := Lib.hid (by unfold Gr.tgt; rw [HMV.out]; rfl)
      obtain ⟨n, hn⟩ : ∃ n, n = s1.next.n := ⟨_, rfl⟩
      obtain ⟨en, hen⟩ : ∃ n, n = s1.next.entries := ⟨_, rfl⟩
      obtain ⟨mk, hmk⟩ : ∃ n, n = s1.next.marks := ⟨_, rfl⟩
      obtain ⟨mo, hmo⟩ : ∃ n, n = s1.now.entries := ⟨_, rfl⟩
      rw [← hn] at HLE HFULL le4
      rw [← hen] at HENT HFULL le1
      rw [← hmk] at HMRK HFULL le2
      rw [← hmo] at HENN HFULL le3
      have zq : (n : Int).tdiv 4 = ((n / 4 : Nat) : Int) := by rw [Int.tdiv_eq_ediv_of_nonneg (by omega)]; omega
      have zq2 : (n : Int) / 4 = ((n / 4 : Nat) : Int) := by omega
      obtain ⟨n4, hn4⟩ : ∃ k, k = n / 4 := ⟨_, rfl⟩
      rw [← hn4] at zq zq2 HFULL
      have zw : IntKind.i64.wrap (n4 : Int) = (n4 : Int) := by rw [IntKind.wrap_i64]; omega
      have zw3 : IntKind.i64.wrap ((n4 : Int) * 3) = (n4 : Int) * 3 := by rw [IntKind.wrap_i64]; omega
      have za : IntKind.i64.wrap ((en : Int) + (mk : Int)) = (en : Int) + (mk : Int) := by rw [IntKind.wrap_i64]; omega
      have zb : IntKind.i64.wrap ((en : Int) + (mk : Int) + (mo : Int)) = (en : Int) + (mk : Int) + (mo : Int) := by rw [IntKind.wrap_i64]; omega
      have zc : IntKind.i64.wrap ((en : Int) + (mk : Int) + (mo : Int) + 1) = (en : Int) + (mk : Int) + (mo : Int) + 1 := by rw [IntKind.wrap_i64]; omega
      clear hn hen hmk hmo hn4 hE hq
      go_upto_region 10 with (first
        | (go_at_call 36
           refine (HENN.out u5 (Below.refl _ _)).mono ?_
           rintro e u6 ⟨rfl, hb⟩
           have HB6 := Lib.hid hb
           clear hb))
      clear x0 x1 x2
      have x5 : u6.cell? ⟨qx, 2, none⟩ = some (.slice AE n cE) := HLE.out u6 HB6.out
      go_upto_region 11 with fail
      clear x5
      by_cases cf : n4 * 3 < en + mk + mo + 1
      · have cf' : (n4 : Int) * 3 < (en : Int) + (mk : Int) + (mo : Int) + 1 := by omega
        have HF : Hid (s1.full = true) := Lib.hid (by rw [HFULL.out]; exact decide_eq_true cf)
        clear cf
        go_wp2_with (first
        | (go_at_call 36
           refine (HENT.out _ HB6.out).mono ?_
           rintro e u7 ⟨rfl, hb⟩
           have HB7 := Lib.hid (HB6.out.trans (hb.mono HB6.out.size))
           clear hb)
        | (go_at_call 37
           refine (HMRK.out _ HB7.out).mono ?_
           rintro e u8 ⟨rfl, hb⟩
           have HB8 := Lib.hid (HB7.out.trans (hb.mono HB7.out.size))
           clear hb))
        go_ret
        refine ⟨by rw [HPE.out, HF.out]; rfl, _, ?_, HX5.out.trans (ExtG.of_below HB8.out)⟩
        rw [HPT.out, HF.out, if_pos rfl]
        exact ⟨_, _, _, _, HG5.out.step HB8.out⟩
      · have cf' : ¬ (n4 : Int) * 3 < (en : Int) + (mk : Int) + (mo : Int) + 1 := by omega
        have HF : Hid (s1.full = false) := Lib.hid (by rw [HFULL.out]; exact decide_eq_false cf)
        clear cf
        go_upto_region 13 with (first
        | (go_at_call 36
           refine (HENT.out _ HB6.out).mono ?_
           rintro e u7 ⟨rfl, hb⟩
           have HB7 := Lib.hid (HB6.out.trans (hb.mono HB6.out.size))
           clear hb)
        | (go_at_call 37
           refine (HMRK.out _ HB7.out).mono ?_
           rintro e u8 ⟨rfl, hb⟩
           have HB8 := Lib.hid (HB7.out.trans (hb.mono HB7.out.size))
           clear hb))
        have HE8 : Hid (u8.heap[r]? = some (.cells #[.int .u64 (H : Int), .int .u32 (X : Int)] 34 (0, 0))) := Lib.hid ((HB8.out.block r (lt_heap HE5.out)).trans HE5.out)
        have e0 : u8.cell? ⟨r, 0, none⟩ = some (.int .u64 (H : Int)) := blk_cell HE8.out 0
        have e1 : u8.cell? ⟨r, 1, none⟩ = some (.int .u32 (X : Int)) := blk_cell HE8.out 1
        have HTA8 := Lib.hid (HTA.out.step HB8.out)
        have HG8 := Lib.hid (HG5.out.step HB8.out)
        have HPP := Lib.hid (rput_ext HTA8.out HTO.out H X HHH.out HXX.out)
        obtain ⟨EI, hEI⟩ : ∃ E, E = s1.next.ptI H := ⟨_, rfl⟩
        obtain ⟨EE, hEE⟩ : ∃ E, E = s1.next.ptE H := ⟨_, rfl⟩
        rw [← hEI, ← hEE] at HPP
        have HEE := Lib.hid hEE
        clear hEI hEE
        go_wp2_with (first
          | (go_at_call 38
             refine HPP.out.mono ?_
             rintro e u9 ⟨rfl, G9, ha, hx⟩
             have HA9 := Lib.hid ha
             have HX9 := Lib.hid hx
             clear ha hx e0 e1))
        go_ret
        refine ⟨by rw [HPE.out, HF.out, HTGE.out, ← HEE.out]; rfl, _, ?_, (HX5.out.trans (ExtG.of_below HB8.out)).trans (HG8.out.putX HMV.out HA9.out HX9.out).2⟩
        rw [HPT.out, HF.out, if_neg Bool.false_ne_true, HLAID.out]
        exact ⟨_, _, _, _, (HG8.out.putX HMV.out HA9.out HX9.out).1⟩
    | false =>
      have HMV : Hid (s1.mv = false) := Lib.hid (by rw [HS1E.out]; exact hmv)
      clear hmv
      go_upto_region 5 with (first
        | (go_at_call 34
           refine HBE.out.mono ?_
           rintro e u5 ⟨rfl, hb⟩
           have HB5 := Lib.hid hb
           clear hb))
      have HG5 : Hid (RG u5 q qn qx s1 G Gn Gx) := Lib.hid (by rw [HS1E.out]; exact HG0.out.step HB5.out)
      have HE5 : Hid (u5.heap[r]? = some (.cells #[.int .u64 (H : Int), .int .u32 (X : Int)] 34 (0, 0))) := Lib.hid ((HB5.out.block r (lt_heap HE0.out)).trans HE0.out)
      have HX5 : Hid (ExtG G G w u5) := Lib.hid (ExtG.of_below (HB0.out.trans (HB5.out.mono HB0.out.size)))
      clear HBE HG0 HE0
      have HTA : Hid (RTA u5 qn s1.now Gn) := Lib.hid (HG5.out.now)
      have HTO : Hid (s1.now.Ok) := Lib.hid (HO1.out.now)
      have HENT := Lib.hid (tent_c HTA.out HTO.out)
      have HMRK := Lib.hid (tmrk_c HTA.out HTO.out)
      have HENN := Lib.hid (tent_c HG5.out.now HO1.out.now)
      obtain ⟨AE, cE, hE⟩ := tlen_c HTA.out
      have HLE := Lib.hid hE
      obtain ⟨le1, le2⟩ := tent_le HTO.out
      have le3 := (tent_le HO1.out.now).1
      have le4 := HTO.out.top
      have hq := HG5.out.blk
      rw [HMV.out] at hq
      have x0 : u5.cell? ⟨q, 0, none⟩ = some (.pointer (some ⟨qn, 0, none⟩)) := blk_cell hq 0
      have x1 : u5.cell? ⟨q, 1, none⟩ = some (.pointer none) := blk_cell hq 1
      have x2 : u5.cell? ⟨q, 2, none⟩ = some (.bool false) := blk_cell hq 2
      have HFULL : Hid (s1.full = decide (s1.now.n / 4 * 3 < s1.now.entries + s1.now.marks + 0 + 1)) := Lib.hid (by unfold Gr.full Gr.tgt Gr.more; rw [HMV.out]; rfl)
      have HLAID : Hid (s1.laid H X = ⟨s1.now.pt H X, s1.next, false, s1.most, s1.at_⟩) := Lib.hid (by unfold Gr.laid; rw [HMV.out]; rfl)
      have HTGE : Hid (s1.tgt.ptE H = s1.now.ptE H) := Lib.hid (by unfold Gr.tgt; rw [HMV.out]; rfl)
      obtain ⟨n, hn⟩ : ∃ n, n = s1.now.n := ⟨_, rfl⟩
      obtain ⟨en, hen⟩ : ∃ n, n = s1.now.entries := ⟨_, rfl⟩
      obtain ⟨mk, hmk⟩ : ∃ n, n = s1.now.marks := ⟨_, rfl⟩
      rw [← hn] at HLE HFULL le4
      rw [← hen] at HENT HFULL le1
      rw [← hmk] at HMRK HFULL le2
      have zq : (n : Int).tdiv 4 = ((n / 4 : Nat) : Int) := by rw [Int.tdiv_eq_ediv_of_nonneg (by omega)]; omega
      have zq2 : (n : Int) / 4 = ((n / 4 : Nat) : Int) := by omega
      obtain ⟨n4, hn4⟩ : ∃ k, k = n / 4 := ⟨_, rfl⟩
      rw [← hn4] at zq zq2 HFULL
      have zw : IntKind.i64.wrap (n4 : Int) = (n4 : Int) := by rw [IntKind.wrap_i64]; omega
      have zw3 : IntKind.i64.wrap ((n4 : Int) * 3) = (n4 : Int) * 3 := by rw [IntKind.wrap_i64]; omega
      have za : IntKind.i64.wrap ((en : Int) + (mk : Int)) = (en : Int) + (mk : Int) := by rw [IntKind.wrap_i64]; omega
      have zb : IntKind.i64.wrap ((en : Int) + (mk : Int) + 0) = (en : Int) + (mk : Int) + 0 := by rw [IntKind.wrap_i64]; omega
      have zc : IntKind.i64.wrap ((en : Int) + (mk : Int) + 0 + 1) = (en : Int) + (mk : Int) + 0 + 1 := by rw [IntKind.wrap_i64]; omega
      clear hn hen hmk hn4 hE hq
      go_upto_region 10 with fail
      clear x0 x1 x2
      obtain ⟨u6, hu6⟩ : ∃ u6, u6 = u5 := ⟨_, rfl⟩
      rw [← hu6]
      have HB6 : Hid (Below u5.heap.size u5 u6) := Lib.hid (by rw [hu6]; exact Below.refl _ _)
      clear hu6
      have x5 : u6.cell? ⟨qn, 2, none⟩ = some (.slice AE n cE) := HLE.out u6 HB6.out
      go_upto_region 11 with fail
      clear x5
      by_cases cf : n4 * 3 < en + mk + 0 + 1
      · have cf' : (n4 : Int) * 3 < (en : Int) + (mk : Int) + 0 + 1 := by omega
        have HF : Hid (s1.full = true) := Lib.hid (by rw [HFULL.out]; exact decide_eq_true cf)
        clear cf
        go_wp2_with (first
        | (go_at_call 36
           refine (HENT.out _ HB6.out).mono ?_
           rintro e u7 ⟨rfl, hb⟩
           have HB7 := Lib.hid (HB6.out.trans (hb.mono HB6.out.size))
           clear hb)
        | (go_at_call 37
           refine (HMRK.out _ HB7.out).mono ?_
           rintro e u8 ⟨rfl, hb⟩
           have HB8 := Lib.hid (HB7.out.trans (hb.mono HB7.out.size))
           clear hb))
        go_ret
        refine ⟨by rw [HPE.out, HF.out]; rfl, _, ?_, HX5.out.trans (ExtG.of_below HB8.out)⟩
        rw [HPT.out, HF.out, if_pos rfl]
        exact ⟨_, _, _, _, HG5.out.step HB8.out⟩
      · have cf' : ¬ (n4 : Int) * 3 < (en : Int) + (mk : Int) + 0 + 1 := by omega
        have HF : Hid (s1.full = false) := Lib.hid (by rw [HFULL.out]; exact decide_eq_false cf)
        clear cf
        go_upto_region 13 with (first
        | (go_at_call 36
           refine (HENT.out _ HB6.out).mono ?_
           rintro e u7 ⟨rfl, hb⟩
           have HB7 := Lib.hid (HB6.out.trans (hb.mono HB6.out.size))
           clear hb)
        | (go_at_call 37
           refine (HMRK.out _ HB7.out).mono ?_
           rintro e u8 ⟨rfl, hb⟩
           have HB8 := Lib.hid (HB7.out.trans (hb.mono HB7.out.size))
           clear hb))
        have HE8 : Hid (u8.heap[r]? = some (.cells #[.int .u64 (H : Int), .int .u32 (X : Int)] 34 (0, 0))) := Lib.hid ((HB8.out.block r (lt_heap HE5.out)).trans HE5.out)
        have e0 : u8.cell? ⟨r, 0, none⟩ = some (.int .u64 (H : Int)) := blk_cell HE8.out 0
        have e1 : u8.cell? ⟨r, 1, none⟩ = some (.int .u32 (X : Int)) := blk_cell HE8.out 1
        have HTA8 := Lib.hid (HTA.out.step HB8.out)
        have HG8 := Lib.hid (HG5.out.step HB8.out)
        have HPP := Lib.hid (rput_ext HTA8.out HTO.out H X HHH.out HXX.out)
        obtain ⟨EI, hEI⟩ : ∃ E, E = s1.now.ptI H := ⟨_, rfl⟩
        obtain ⟨EE, hEE⟩ : ∃ E, E = s1.now.ptE H := ⟨_, rfl⟩
        rw [← hEI, ← hEE] at HPP
        have HEE := Lib.hid hEE
        clear hEI hEE
        go_wp2_with (first
          | (go_at_call 38
             refine HPP.out.mono ?_
             rintro e u9 ⟨rfl, G9, ha, hx⟩
             have HA9 := Lib.hid ha
             have HX9 := Lib.hid hx
             clear ha hx e0 e1))
        go_ret
        refine ⟨by rw [HPE.out, HF.out, HTGE.out, ← HEE.out]; rfl, _, ?_, (HX5.out.trans (ExtG.of_below HB8.out)).trans (HG8.out.putN HMV.out HA9.out HX9.out).2⟩
        rw [HPT.out, HF.out, if_neg Bool.false_ne_true, HLAID.out]
        exact ⟨_, _, _, _, (HG8.out.putN HMV.out HA9.out HX9.out).1⟩
end
end Go.Proofs.Ythjghofjdcepmaa
