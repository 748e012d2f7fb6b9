/- Stage 10: going over a list: what behind hands on. -/
import Derived.RangeFuncNested
import Derived.RangeFuncBound
import Derived.RangeFuncCalls
import Derived.RangeFuncLeaves
import Derived.Shelf.Abstract
import Derived.Shelf.RegionOpen
import Derived.WalkKit
import Derived.OwnWalkIn
import Derived.TacticsInMore
import Derived.LoopNIn
import Derived.LoopIn
import Derived.Sort.LoopGhostIn
import Derived.Test.YthlnhkkjpjbmeaaVi
namespace Go.Proofs.Ythlnhkkjpjbmeaa
set_option maxRecDepth 100000
open Go.RowKit Go.Shelf
attribute [local go_sem] Oper.semAt_some
/-- One step of a walk's place. -/
theorem SSt.walk {wb W : World} {X : Nat → Prop} {p : Nat} {s : Sl} {A b a : Nat} (h : SSt wb X W p s A (some (b, a))) (v : Nat) : SSt wb X (W.drew.setCell ⟨b, 0, none⟩ (.int .i64 (v : Int))) p s A (some (b, v)) ∧ ∀ k, X k → (W.drew.setCell ⟨b, 0, none⟩ (.int .i64 (v : Int))).heap[k]? = W.heap[k]? := by
  obtain ⟨F, ⟨cA, B, cB, V, cV, fl, pv, nx, sz, hx, hr⟩, h1, h2, h3⟩ := h
  exact SSt.turned (F := F) (F' := F) ⟨cA, B, cB, V, cV, fl, pv, nx, sz, hx, hr⟩ h1 h2 h3 ⟨cA, B, cB, V, cV, fl, pv, nx, sz, hx.drew.setW v, hr⟩ ((Kept.refl F W).drew.setCell (p := ⟨b, 0, none⟩) (.inl (hx.wlk _ rfl).2) _) fun k hk => .inl hk
theorem SSt.cellW {wb W : World} {X : Nat → Prop} {p : Nat} {s : Sl} {A b a : Nat} (h : SSt wb X W p s A (some (b, a))) : W.cell? ⟨b, 0, none⟩ = some (.int .i64 (a : Int)) ∧ W.frozen? ⟨b, 0, none⟩ = false := by
  obtain ⟨F, ⟨cA, B, cB, V, cV, fl, pv, nx, sz, hx, hr⟩, h1, h2, h3⟩ := h
  exact hx.wcell
set_option maxHeartbeats 2000000 in
theorem pbehind_it (wb : World) (p : Nat) (L : List Nat) (S : Nat → Sl) (pl : Nat → Nat) (m n o : Nat) (hw : Walk L S pl m n o) (_hm : m ≤ 65536) (_hn : n ≤ 4096) (A b bp bw : Nat) :
    SeqU Fence.wide 11 Try.prog 38 #[.pointer (some ⟨bp, 0, none⟩), .pointer (some ⟨bw, 0, none⟩)] nEnc (BhZ wb p S o A b bp bw) (WkY wb p L S) (WkA wb p S pl) (BhD wb p L S o A b) (BhS wb p L S A b) := fun l I Ix X W hI hIx hZ hI0 hY => by
  obtain ⟨hst, hKX, hbp, hbw⟩ := hZ
  have HI := Lib.hid hI
  have HIx := Lib.hid hIx
  have HY := Lib.hid hY
  have HS0 := Lib.hid hst
  have HK0 := Lib.hid hKX
  have HP0 := Lib.hid hbp
  have HW0 := Lib.hid hbw
  have HI0 := Lib.hid hI0
  have HWk := Lib.hid hw
  obtain ⟨N, hN⟩ : ∃ N, N = m + n := ⟨_, rfl⟩
  have HN := Lib.hid hN
  have hx0 : ∃ cA, W.cell? ⟨p, 0, none⟩ = some (.slice (some ⟨A, 0, none⟩) N cA) ∧ N ≤ cA ∧ cA ≤ 9223372036854775807 := by
    obtain ⟨F, ⟨cA, B, cB, V, cV, fl, pv, nx, sz, hx, hr⟩, h1, h2, h3⟩ := hst
    rw [hw.cells, hw.len] at hx
    refine ⟨cA, by rw [hN]; exact blk_cell hx.blk 0, ?_⟩
    have h1 := hx.rowA.cap
    have h2 := hx.rowA.cap_le
    unfold maxLen at h2
    omega
  obtain ⟨cA, hx0, hcA, hcA9⟩ := hx0
  have hx1 := hst.cellW.1
  have y0 : ∀ V : Stay W, V.w.cell? ⟨p, 0, none⟩ = some (.slice (some ⟨A, 0, none⟩) N cA) := fun V => Stay.cell hx0 V
  have y1 : ∀ V : Stay W, V.w.cell? ⟨bp, 0, none⟩ = some (.pointer (some ⟨p, 0, none⟩)) := fun V => Stay.cell (blk_cell hbp 0) V
  have y2 : ∀ V : Stay W, V.w.cell? ⟨bw, 0, none⟩ = some (.pointer (some ⟨b, 0, none⟩)) := fun V => Stay.cell (blk_cell hbw 0) V
  have y3 : ∀ V : Stay W, V.w.cell? ⟨b, 0, none⟩ = some (.int .i64 (o : Int)) := fun V => Stay.cell hx1 V
  clear hI hIx hY hst hKX hbp hbw hI0 hw hN hx0 hx1
  refine callsIn_of_wp Try.func38 rfl trivial ?_ rfl
  refine wpIn_wide.2 ?_
  simp only [Try.ntmps38, List.size_toArray, List.length_cons, List.length_nil, Nat.reduceAdd, Nat.reduceSub, Array.replicate_succ, Array.replicate_zero, List.push_toArray, List.append_toArray, List.nil_append, List.cons_append]
  go_upto_region 0 with fail
  refine wp_region_stay (by kernel_rfl) (by kernel_rfl) ?_
  repeat (go_big_quiet_step (fail))
  refine wpQuiet_nil ?_
  intro w' hw'
  obtain ⟨V, rfl⟩ := hw'
  have HB1 := Lib.hid V.below
  have HS1 := Lib.hid (HS0.out.step V.below)
  have HI1 : Hid (I X [] V.w) := Lib.hid (HI.out X [] W V.w HI0.out V.below.size fun k hk => V.below.block k (HS0.out.lt k (.inl hk)))
  have HP1 : Hid (V.w.heap[bp]? = some (.cells #[.pointer (some ⟨p, 0, none⟩)] 24 (0, 0))) := Lib.hid ((V.below.block bp (lt_heap HP0.out)).trans HP0.out)
  have HW1 : Hid (V.w.heap[bw]? = some (.cells #[.pointer (some ⟨b, 0, none⟩)] 68 (0, 0))) := Lib.hid ((V.below.block bw (lt_heap HW0.out)).trans HW0.out)
  clear y0 y1 y2 y3 HS0 HI0 HP0 HW0
  generalize V.w = v1 at *
  go_wp2_with fail
  refine (wpIn_wide (n := 11)).1 ?_
  gi_loopg [] (L.length) (fun j wr => ∃ (k : Nat) (Xc : Nat → Prop), k + j = L.length ∧ I Xc (L.take k) wr ∧ SSt wb (Or2 Xc (fun k => k = bp ∨ k = bw)) wr p (S k) A (some (b, pl k)) ∧ (∀ q, (q = bp ∨ q = bw) → ¬ Xc q) ∧ wr.heap[bp]? = some (.cells #[.pointer (some ⟨p, 0, none⟩)] 24 (0, 0)) ∧ wr.heap[bw]? = some (.cells #[.pointer (some ⟨b, 0, none⟩)] 68 (0, 0)))
  case atStart => exact ⟨0, X, Nat.zero_add _, HI1.out, (by rw [HWk.out.at0]; exact HS1.out), HK0.out, HP1.out, HW1.out⟩
  case round =>
    obtain ⟨k, Xc, hk, hi, hs, hkx, hp, hwv⟩ := hrel
    have hv : ∃ v : Nat, wr.cell? ⟨A, pl k * 3 + 2, none⟩ = some (.int .i64 (v : Int)) ∧ (∀ x, L[k]? = some x → v = x) ∧ (k = L.length → v = o) := by
      obtain ⟨F, ⟨cA, B, cB, V, cV, fl, pv, nx, sz, hx, hr⟩, h1, h2, h3⟩ := hs
      have hlt := HWk.out.lt k
      rw [← HWk.out.cells k, ← HWk.out.len k] at hlt
      refine ⟨nx (pl k), hx.l2 hlt, fun x e => HWk.out.next k x e fl pv nx sz hr, fun e => ?_⟩
      subst e
      exact HWk.out.last fl pv nx sz hr
    obtain ⟨v, xv, hvn, hvo⟩ := hv
    have HI1 := Lib.hid hi
    have HS1 := Lib.hid hs
    have HK1 := Lib.hid hkx
    have HP1 := Lib.hid hp
    have HW1 := Lib.hid hwv
    have HVN := Lib.hid hvn
    have HVO := Lib.hid hvo
    have xbw : wr.cell? ⟨bw, 0, none⟩ = some (.pointer (some ⟨b, 0, none⟩)) := blk_cell hwv 0
    have xb : wr.cell? ⟨b, 0, none⟩ = some (.int .i64 (pl k : Int)) := hs.cellW.1
    have xbz : wr.frozen? ⟨b, 0, none⟩ = false := hs.cellW.2
    have p0 : (0 : Int) ≤ (pl k : Int) := by omega
    have p1 : (pl k : Int) < (N : Int) := by have := HWk.out.lt k; have := HN.out; omega
    clear hi hs hkx hp hwv hvn hvo
    obtain ⟨a, ha⟩ : ∃ a, a = pl k := ⟨_, rfl⟩
    rw [← ha] at xv xb p0 p1 HS1
    clear ha
    refine wpIn_wide.2 ?_
    go_upto_region 1 with fail
    go_still_tail 11, (by kernel_rfl)
    repeat still_step
    try refine wpStill_nil ?_
    change wpList _ _ _ _ _ wr.drew
    have xe : wr.drew.cell? ⟨b, 0, none⟩ = some (.int .i64 (a : Int)) := xb
    have xf : wr.drew.frozen? ⟨b, 0, none⟩ = false := xbz
    go_upto_region 2 with fail
    change Code.wp _ _ _ _ (wr.drew.setCell ⟨b, 0, none⟩ (.int .i64 (v : Int)))
    have HS2 := Lib.hid (HS1.out.walk v).1
    have HU2 := Lib.hid (HS1.out.walk v).2
    have hsz : (wr.drew.setCell ⟨b, 0, none⟩ (.int .i64 (v : Int))).heap.size = wr.heap.size := by simp
    have HI2 : Hid (I Xc (L.take k) (wr.drew.setCell ⟨b, 0, none⟩ (.int .i64 (v : Int)))) := Lib.hid (HI.out Xc (L.take k) wr _ HI1.out (Nat.le_of_eq hsz.symm) fun q hq => HU2.out q (.inl hq))
    have HP2 : Hid ((wr.drew.setCell ⟨b, 0, none⟩ (.int .i64 (v : Int))).heap[bp]? = some (.cells #[.pointer (some ⟨p, 0, none⟩)] 24 (0, 0))) := Lib.hid ((HU2.out bp (.inr (.inl rfl))).trans HP1.out)
    have HW2 : Hid ((wr.drew.setCell ⟨b, 0, none⟩ (.int .i64 (v : Int))).heap[bw]? = some (.cells #[.pointer (some ⟨b, 0, none⟩)] 68 (0, 0))) := Lib.hid ((HU2.out bw (.inr (.inr rfl))).trans HW1.out)
    clear xv xb xbz xbw xe xf HI1 HS1 HP1 HW1 HU2 hsz p0 p1
    generalize wr.drew.setCell ⟨b, 0, none⟩ (.int .i64 (v : Int)) = u at *
    have xbw : u.cell? ⟨bw, 0, none⟩ = some (.pointer (some ⟨b, 0, none⟩)) := blk_cell HW2.out 0
    have xb : u.cell? ⟨b, 0, none⟩ = some (.int .i64 (v : Int)) := HS2.out.cellW.1
    by_cases hkl : k < L.length
    · obtain ⟨x, hx⟩ : ∃ x, L[k]? = some x := ⟨L[k], List.getElem?_eq_getElem hkl⟩
      obtain rfl := HVN.out x hx
      have hne : ((v : Int) == (o : Int)) = false := by
        have := (HWk.out.ne v (List.mem_of_getElem? hx))
        have := HWk.out.mo
        simp
        omega
      have htk : L.take (k + 1) = L.take k ++ [v] := by rw [List.take_add_one, hx]; rfl
      have hpre : L.take k ++ [v] <+: L := by rw [← htk]; exact List.take_prefix _ _
      have hlen : (L.take k).length = k := by rw [List.length_take]; omega
      obtain ⟨fn, tmps, assign, body, hy, hR⟩ := HY.out (A, b) Xc (fun k => k = bp ∨ k = bw) (L.take k) v u HI2.out ⟨hpre, by rw [hlen]; exact HS2.out⟩ HK1.out
      dsimp only [nEnc] at hy
      have HR := Lib.hid hR
      have HPR := Lib.hid hpre
      have HTK := Lib.hid htk
      have HLN := Lib.hid hlen
      clear hR hx hpre htk hlen
      refine (wpIn_wide (n := 11)).1 ?_
      gi_wp2_with fail
      refine HR.out.mono ?_
      rintro e W3 (⟨rfl, X', h1, h2, h3⟩ | ⟨rfl, X', h1, h2, h3⟩)
      · have HJ1 := Lib.hid h1
        have HJ2 := Lib.hid h2
        have HJ3 := Lib.hid h3
        clear h1 h2 h3 hy
        gi_wp2
        go_wp2_with fail
        gi_roundg (gk - 1)
        case measure => omega
        case rel =>
          refine ⟨k + 1, X', by omega, (by rw [HTK.out]; exact HJ1.out), ?_, fun q hq => (HJ3.out q hq).1, (HJ3.out bp (.inl rfl)).2.trans HP2.out, (HJ3.out bw (.inr rfl)).2.trans HW2.out⟩
          have := HJ2.out
          unfold WkA at this
          rw [List.length_append, HLN.out] at this
          exact this
      · have HJ1 := Lib.hid h1
        have HJ2 := Lib.hid h2
        clear h1 h2 h3 hy
        gi_wp2
        go_wp2_with fail
        refine bodyPost_ret (results_none rfl _ _ _) rfl ?_
        refine ⟨⟨_, rfl⟩, .inr ⟨X', _, HJ1.out, HPR.out, pl (L.take k ++ [v]).length, ?_⟩⟩
        exact SSt.less HJ2.out fun q hq => .inl hq
    · obtain rfl : k = L.length := by omega
      obtain rfl := HVO.out rfl
      have HTK : Hid (L.take L.length = L) := Lib.hid (List.take_length ..)
      go_wp2_with fail
      refine bodyPost_ret (results_none rfl _ _ _) rfl ?_
      refine ⟨⟨_, rfl⟩, .inl ⟨Xc, L, ?_, rfl, SSt.less HS2.out fun q hq => .inl hq⟩⟩
      have := HI2.out
      rw [HTK.out] at this
      exact this
end Go.Proofs.Ythlnhkkjpjbmeaa
