import Derived.Test.YtlchegibfopglaaK1
import Derived.Test.YtlchegibfopglaaK8
import Derived.Test.YtlchegibfopglaaK12
import Derived.Laws.CopyRow
import Derived.Test.YtlchegibfopglaaK7
/- Layer 6, the program: the header of a packet within (back4, back6). -/
namespace Go.Proofs.Ytlchegibfopglaa
set_option maxRecDepth 100000
open Go.RowKit
/-- What the header of a packet within tells: the flow without its ports, where its segment begins, what is wrong. -/
def BkOut (v6 : Bool) (x : Int × Nat × Int) (s d : Nat → Int) (w : World) (e : Ending) (w' : World) : Prop :=
  ∃ v pr ss dd, e = .returned (.tuple #[.agg (tupc v pr ss dd 0 0), .int .i64 (x.2.1 : Int), .int .i64 x.1]) ∧ Below w.heap.size w w' ∧ (x.1 = 0 → v = v6 ∧ pr = x.2.2 ∧ (∀ k, k < 16 → ss k = s k) ∧ (∀ k, k < 16 → dd k = d k))
/-- A result's row, and a flow in a variable. -/
structure TwS (w W : World) (q : Nat) (z cs : Array Value) (t : TypeId) : Prop where
  res : W.heap[w.heap.size]? = some (.cells z t (0, 0))
  hd : W.heap[q]? = some (.cells cs 26 (0, 0))
  below : Below w.heap.size w W
  lt : w.heap.size < q
theorem TwS.row {w W : World} {q : Nat} {z cs : Array Value} {t : TypeId} (h : TwS w W q z cs t) (new : Array Value) : TwS w (W.setRow q new) q z new t :=
  ⟨(setRow_other W q w.heap.size new (Nat.ne_of_lt h.lt)).trans h.res, setRow_heap W q _ new _ _ h.hd, below_setRow h.below (Nat.le_of_lt h.lt) new, h.lt⟩
theorem TwS.set {w W : World} {q : Nat} {z cs : Array Value} {t : TypeId} (h : TwS w W q z cs t) (i : Nat) (v : Value) : TwS w (W.setCell ⟨q, i, none⟩ v) q z (cs.setIfInBounds i v) t :=
  ⟨blk_far h.res (Nat.ne_of_lt h.lt) v, blk_set h.hd i v, h.below.setCell (Nat.le_of_lt h.lt) v, h.lt⟩
theorem TwS.cells {w W : World} {q : Nat} {z cs : Array Value} {t : TypeId} (h : TwS w W q z cs t) (o : Nat) (vs : List Value) : TwS w (W.setCells q o vs) q z (laid cs o vs) t :=
  ⟨(other_setCells (Nat.ne_of_lt h.lt) vs o W).trans h.res, blk_setCells vs o W cs h.hd, below_setCells (Nat.le_of_lt h.lt) vs o W h.below, h.lt⟩
theorem TwS.drew {w W : World} {q : Nat} {z cs : Array Value} {t : TypeId} (h : TwS w W q z cs t) : TwS w W.drew q z cs t := ⟨h.res, h.hd, h.below.drew, h.lt⟩
theorem TwS.step {w W W' : World} {q : Nat} {z cs : Array Value} {t : TypeId} (h : TwS w W q z cs t) (hb : Below W.heap.size W W') : TwS w W' q z cs t :=
  ⟨(hb.block _ (lt_heap h.res)).trans h.res, (hb.block _ (lt_heap h.hd)).trans h.hd, h.below.trans (hb.mono h.below.size), h.lt⟩
theorem TwS.new {w W : World} {z : Array Value} {t : TypeId} (hz : W.heap[w.heap.size]? = some (.cells z t (0, 0))) (hb : Below w.heap.size w W) (zs cs : Array Value) (q : Nat) (hq : q = W.heap.size) : TwS w ((W.alloc (.cells zs 26)).setRow q cs) q z cs t := by
  subst hq
  have hlt := lt_heap hz
  exact ⟨(setRow_other _ W.heap.size w.heap.size cs (Nat.ne_of_lt hlt)).trans (blk_old hz _), setRow_heap _ _ _ cs _ _ (heap_alloc_new W _), below_setRow (hb.alloc hb.size _) hb.size _, hlt⟩
theorem win4_0 {f : Nat → Int} {n : Nat} (h : n < 20) : win4 f n = (4, 0, 0) := by unfold win4; rw [if_pos h]
theorem win4_1 {f : Nat → Int} {n : Nat} (h0 : ¬ n < 20) (h : f 0 / 16 ≠ 4 ∨ 4 * (f 0 % 16).toNat < 20) : win4 f n = (5, 0, 0) := by unfold win4; rw [if_neg h0, if_pos h]
theorem win4_2 {f : Nat → Int} {n : Nat} (h0 : ¬ n < 20) (h1 : ¬ (f 0 / 16 ≠ 4 ∨ 4 * (f 0 % 16).toNat < 20)) (h : n < 4 * (f 0 % 16).toNat) : win4 f n = (4, 0, 0) := by unfold win4; rw [if_neg h0, if_neg h1, if_pos h]
theorem win4_3 {f : Nat → Int} {n : Nat} (h0 : ¬ n < 20) (h1 : ¬ (f 0 / 16 ≠ 4 ∨ 4 * (f 0 % 16).toNat < 20)) (h2 : ¬ n < 4 * (f 0 % 16).toNat) (h : w2 f 6 % 8192 ≠ 0) : win4 f n = (11, 0, 0) := by unfold win4; rw [if_neg h0, if_neg h1, if_neg h2, if_pos h]
theorem win4_4 {f : Nat → Int} {n : Nat} (h0 : ¬ n < 20) (h1 : ¬ (f 0 / 16 ≠ 4 ∨ 4 * (f 0 % 16).toNat < 20)) (h2 : ¬ n < 4 * (f 0 % 16).toNat) (h : w2 f 6 % 8192 = 0) : win4 f n = (0, 4 * (f 0 % 16).toNat, f 9) := by unfold win4; rw [if_neg h0, if_neg h1, if_neg h2, if_neg (fun q => q h)]
theorem win6_0 {f : Nat → Int} {n : Nat} (h : n < 40) : win6 f n = (4, 0, 0) := by unfold win6; rw [if_pos h]
theorem win6_1 {f : Nat → Int} {n : Nat} (h0 : ¬ n < 40) (h : f 0 / 16 ≠ 6) : win6 f n = (5, 0, 0) := by unfold win6; rw [if_neg h0, if_pos h]
theorem win6_2 {f : Nat → Int} {n : Nat} (h0 : ¬ n < 40) (h1 : f 0 / 16 = 6) (h : (wch f n).2.2 ≠ 0) : win6 f n = ((wch f n).2.2, 0, 0) := by unfold win6; rw [if_neg h0, if_neg (fun q => q h1), if_pos h]
theorem win6_3 {f : Nat → Int} {n : Nat} (h0 : ¬ n < 40) (h1 : f 0 / 16 = 6) (h : (wch f n).2.2 = 0) : win6 f n = (0, 40 + (wch f n).2.1, (wch f n).1) := by unfold win6; rw [if_neg h0, if_neg (fun q => q h1), if_neg (fun q => q h)]
theorem winS4 (f : Nat → Int) (k : Nat) : fst16 f 16 4 k = winS false f k := by unfold fst16 winS winA; rw [if_neg (show ¬ (false = true) by decide)]
theorem winD4 (f : Nat → Int) (k : Nat) : fst16 f 12 4 k = winD false f k := by unfold fst16 winD winA; rw [if_neg (show ¬ (false = true) by decide)]
theorem winS6 (f : Nat → Int) (k : Nat) (h : k < 16) : fst16 f 24 16 k = winS true f k := by unfold fst16 winS winA; rw [if_pos rfl, if_pos h]
theorem winD6 (f : Nat → Int) (k : Nat) (h : k < 16) : fst16 f 8 16 k = winD true f k := by unfold fst16 winD winA; rw [if_pos rfl, if_pos h]
set_option maxRecDepth 100000 in
set_option maxHeartbeats 4000000 in
theorem back4_any (A : Option Addr) (n c : Nat) (f : Nat → Int) (hf : Byt f) (hn : n ≤ 140737488355328) (hcap : n ≤ c) (hc' : c ≤ 9223372036854775807) (w : World) (hr : Rd w w.heap.size A n f) :
    Calls Try.prog 78 #[.slice A n c] w (BkOut false (win4 f n) (winS false f) (winD false f) w) := by
  have HR := Lib.hid hr
  have HF := Lib.hid hf
  clear hr hf
  obtain ⟨R, hR⟩ : ∃ R, R = win4 f n := ⟨_, rfl⟩
  rw [← hR]
  have HRE := Lib.hid hR
  clear hR
  have HZ1 : Hid ((w.alloc (.cells tupz 26)).heap[w.heap.size]? = some (.cells tupz 26 (0, 0))) := heap_alloc_new w _
  have HB1 : Hid (Below w.heap.size w (w.alloc (.cells tupz 26))) := below_alloc w _
  go_enter Try.func78, Try.ntmps78
  go_upto_if 9 with fail
  change Code.wp _ _ _ _ (w.alloc (.cells tupz 26))
  generalize w.alloc (.cells tupz 26) = u1 at *
  by_cases c0 : n < 20
  · have c0' : (n : Int) < 20 := by omega
    have hRe : R = (4, 0, 0) := HRE.out.trans (win4_0 c0)
    have hne : ¬ (4 : Int) = 0 := by decide
    go_wp2_with (first
      | (refine wpList_store_row rfl 26 (.tmp 2) (.tmp 10) rfl w.heap.size tupz rfl rfl 26 tupz HZ1.out (by kernel_rfl) rfl tupz_one ?_))
    refine bodyPost_ret (v := .tuple #[.agg tupz, .int .i64 0, .int .i64 4]) (results_row2 Try.results78 _ _ w.heap.size 26 tupz (0, 0) _ rfl (setRow_heap _ w.heap.size _ tupz _ _ HZ1.out) Try.underlying26 rfl (by kernel_rfl)) rfl ?_
    exact ⟨false, 0, fun _ => 0, fun _ => 0, by rw [hRe] <;> rfl, below_setRow HB1.out (Nat.le_refl _) _, fun h => absurd h (by rw [hRe]; first | exact hne | decide)⟩
  · have N0 : Hid (¬ n < 20) := c0
    have c0' : (20 : Int) ≤ (n : Int) := by omega
    have n0 : 0 < n := by omega
    rcases HR.out with h0 | ⟨b, off, rfl, hbb, hcell⟩
    · omega
    have HC := Lib.hid hcell
    clear hcell
    have p0 := HF.out 0
    have x0 := (HB1.out.cell (p := ⟨b, off, none⟩) hbb).trans (HC.out 0 (by omega))
    obtain ⟨H, hH⟩ : ∃ H, H = 4 * (f 0 % 16).toNat := ⟨_, rfl⟩
    have HH := Lib.hid hH
    have ha : bits .and .u8 (f 0) 15 = f 0 % 16 := and_u8 (f 0) 15 16 4 rfl rfl (by omega) (by omega) (by omega)
    have hH' : f 0 % 16 * 4 = (H : Int) := by omega
    have hHb : H ≤ 60 := by omega
    clear hH
    go_upto_region 4 with fail
    clear ha hH'
    by_cases hv : f 0 / 16 = 4
    · have hv' : (f 0 / 16 != 4) = false := by simpa using hv
      by_cases c1 : H < 20
      · have c1' : (H : Int) < 20 := by omega
        have hRe : R = (5, 0, 0) := HRE.out.trans (win4_1 N0.out (.inr (by rw [← HH.out]; exact c1)))
        have hne : ¬ (5 : Int) = 0 := by decide
        go_upto_region 5 with fail
        go_wp2_with (first
          | (refine wpList_store_row rfl 26 (.tmp 2) (.tmp 26) rfl w.heap.size tupz rfl rfl 26 tupz HZ1.out (by kernel_rfl) rfl tupz_one ?_))
        refine bodyPost_ret (v := .tuple #[.agg tupz, .int .i64 0, .int .i64 5]) (results_row2 Try.results78 _ _ w.heap.size 26 tupz (0, 0) _ rfl (setRow_heap _ w.heap.size _ tupz _ _ HZ1.out) Try.underlying26 rfl (by kernel_rfl)) rfl ?_
        exact ⟨false, 0, fun _ => 0, fun _ => 0, by rw [hRe] <;> rfl, below_setRow HB1.out (Nat.le_refl _) _, fun h => absurd h (by rw [hRe]; first | exact hne | decide)⟩
      · have c1' : (20 : Int) ≤ (H : Int) := by omega
        have N1 : Hid (¬ (f 0 / 16 ≠ 4 ∨ 4 * (f 0 % 16).toNat < 20)) := fun q => by
          rcases q with q | q
          · exact q hv
          · rw [← HH.out] at q; exact c1 q
        go_upto_if 30 with fail
        clear x0 hv hv'
        by_cases c2 : n < H
        · have c2' : (n : Int) < (H : Int) := by omega
          have hRe : R = (4, 0, 0) := HRE.out.trans (win4_2 N0.out N1.out (by rw [← HH.out]; exact c2))
          have hne : ¬ (4 : Int) = 0 := by decide
          go_wp2_with (first
            | (refine wpList_store_row rfl 26 (.tmp 2) (.tmp 31) rfl w.heap.size tupz rfl rfl 26 tupz HZ1.out (by kernel_rfl) rfl tupz_one ?_))
          refine bodyPost_ret (v := .tuple #[.agg tupz, .int .i64 0, .int .i64 4]) (results_row2 Try.results78 _ _ w.heap.size 26 tupz (0, 0) _ rfl (setRow_heap _ w.heap.size _ tupz _ _ HZ1.out) Try.underlying26 rfl (by kernel_rfl)) rfl ?_
          exact ⟨false, 0, fun _ => 0, fun _ => 0, by rw [hRe] <;> rfl, below_setRow HB1.out (Nat.le_refl _) _, fun h => absurd h (by rw [hRe]; first | exact hne | decide)⟩
        · have N2 : Hid (¬ n < 4 * (f 0 % 16).toNat) := by rw [← HH.out]; exact c2
          have c2' : (H : Int) ≤ (n : Int) := by omega
          have p6 := HF.out 6
          have p7 := HF.out 7
          have x6 := (HB1.out.cell (p := ⟨b, off + 6, none⟩) hbb).trans (HC.out 6 (by omega))
          have x7 := (HB1.out.cell (p := ⟨b, off + 7, none⟩) hbb).trans (HC.out 7 (by omega))
          have i6 : (6 : Int) < (n : Int) := by omega
          have i7 : (7 : Int) < (n : Int) := by omega
          obtain ⟨G, hG⟩ : ∃ G, G = w2 f 6 := ⟨_, rfl⟩
          have HG := Lib.hid hG
          have hG' : G = f 6 * 256 + f 7 := hG
          have w6 : IntKind.u16.wrap (f 6) = f 6 := by rw [IntKind.wrap_u16]; omega
          have w7 : IntKind.u16.wrap (f 7) = f 7 := by rw [IntKind.wrap_u16]; omega
          have w8 : IntKind.u16.wrap (f 6 * 256) = f 6 * 256 := by rw [IntKind.wrap_u16]; omega
          have hor : bits .or .u16 (f 6 * 256) (f 7) = G := (or_u16 (f 6) (f 7) 256 8 rfl (by omega) (by omega) (by omega) (by omega)).trans hG'.symm
          have han : bits .and .u16 G 8191 = G % 8192 := and_u16 G 8191 8192 13 rfl rfl (by omega) (by omega) (by omega)
          clear hG hG' p6 p7
          go_upto_region 8 with fail
          go_quiet (fail)
          have HZ2 := Lib.hid (show (u1.drewN nq).heap[w.heap.size]? = some (.cells tupz 26 (0, 0)) from HZ1.out)
          have HB2 := Lib.hid (below_drewN HB1.out nq)
          clear HZ1 HB1 x6 x7 i6 i7 w6 w7 w8 hor han
          generalize u1.drewN nq = u2 at *
          by_cases c3 : G % 8192 = 0
          · have c3' : (G % 8192 != 0) = false := by simpa using c3
            have hRe : R = (0, H, f 9) := by rw [HH.out]; exact HRE.out.trans (win4_4 N0.out N1.out N2.out (by rw [← HG.out]; exact c3))
            have x9 := (HB2.out.cell (p := ⟨b, off + 9, none⟩) hbb).trans (HC.out 9 (by omega))
            have i9 : (9 : Int) < (n : Int) := by omega
            have HQ : Hid ((u2.alloc (.cells tupz 26)).heap[u2.heap.size]? = some (.cells tupz 26 (0, 0))) := heap_alloc_new u2 _
            go_upto_region 11 with (first
              | (refine wpList_store_row rfl 26 (.tmp 6) (.tmp 48) rfl u2.heap.size (tupc false (f 9) (fun _ => 0) (fun _ => 0) 0 0) rfl rfl 26 tupz HQ.out (by kernel_rfl) rfl (tup_one ..) ?_))
            change Code.wp _ _ _ _ ((u2.alloc (.cells tupz 26)).setRow u2.heap.size (tupc false (f 9) (fun _ => 0) (fun _ => 0) 0 0))
            obtain ⟨q, hq⟩ : ∃ q, q = u2.heap.size := ⟨_, rfl⟩
            have HS3 := Lib.hid (TwS.new HZ2.out HB2.out tupz (tupc false (f 9) (fun _ => 0) (fun _ => 0) 0 0) q hq)
            rw [← hq]
            clear hq x9 i9 HQ HZ2 HB2 c3 c3'
            generalize (u2.alloc (.cells tupz 26)).setRow q (tupc false (f 9) (fun _ => 0) (fun _ => 0) 0 0) = u3 at *
            obtain ⟨A12, hs12, hr12⟩ := slice_both b off n c 12 16 (by omega) (by omega) hcap hc'
            have hs12' : ∀ W, (Instr.sliceAt 22 (.slice (some ⟨b, off, none⟩) n c) (some (.int .i64 12)) (some (.int .i64 16)) none).run Try.prog W = .ok (.slice A12 4 (c - 12)) W := hs12
            have HR12 : Hid (Rd u3.drew u3.drew.heap.size A12 4 (fun k => f (12 + k))) := hr12 _ _ f ((HR.out.keep HS3.out.below.drew).more HS3.out.below.drew.size)
            clear hs12 hr12
            go_region_held3 (fun _ => True) (trivial)
              (first
              | (refine step_copy_row rfl (.tmp 50) (.tmp 52) _ rfl 5 Try.underlying22 (by kernel_rfl) HS3.out.drew.hd rfl rfl HR12.out 4 (by omega) (by omega) (by show 18 + 4 ≤ 36; omega) (tupc false (f 9) (fun _ => 0) (fst16 f 12 4) 0 0) rfl ?_))
            have HS4 := Lib.hid (HS3.out.drew.row (tupc false (f 9) (fun _ => 0) (fst16 f 12 4) 0 0))
            clear HS3 HR12 hs12'
            generalize u3.drew.setRow q (tupc false (f 9) (fun _ => 0) (fst16 f 12 4) 0 0) = u4 at *
            obtain ⟨A16, hs16, hr16⟩ := slice_both b off n c 16 20 (by omega) (by omega) hcap hc'
            have hs16' : ∀ W, (Instr.sliceAt 22 (.slice (some ⟨b, off, none⟩) n c) (some (.int .i64 16)) (some (.int .i64 20)) none).run Try.prog W = .ok (.slice A16 4 (c - 16)) W := hs16
            have HR16 : Hid (Rd u4.drew u4.drew.heap.size A16 4 (fun k => f (16 + k))) := hr16 _ _ f ((HR.out.keep HS4.out.below.drew).more HS4.out.below.drew.size)
            clear hs16 hr16
            go_upto_region 12 with fail
            go_region_held3 (fun _ => True) (trivial)
              (first
              | (refine step_copy_row rfl (.tmp 55) (.tmp 57) _ rfl 5 Try.underlying22 (by kernel_rfl) HS4.out.drew.hd rfl rfl HR16.out 4 (by omega) (by omega) (by show 2 + 4 ≤ 36; omega) (tupc false (f 9) (fst16 f 16 4) (fst16 f 12 4) 0 0) rfl ?_))
            have HS5 := Lib.hid (HS4.out.drew.row (tupc false (f 9) (fst16 f 16 4) (fst16 f 12 4) 0 0))
            clear HS4 HR16 hs16'
            generalize u4.drew.setRow q (tupc false (f 9) (fst16 f 16 4) (fst16 f 12 4) 0 0) = u5 at *
            go_wp2_with (first
              | (refine wpList_load_row rfl 26 (.tmp 6) rfl q rfl 26 (tupc false (f 9) (fst16 f 16 4) (fst16 f 12 4) 0 0) (0, 0) _ HS5.out.hd Try.underlying26 rfl (by kernel_rfl) ?_)
              | (refine wpList_store_row rfl 26 (.tmp 2) (.tmp 59) rfl w.heap.size (tupc false (f 9) (fst16 f 16 4) (fst16 f 12 4) 0 0) rfl rfl 26 tupz HS5.out.res (by kernel_rfl) rfl (tup_one ..) ?_))
            refine bodyPost_ret (v := .tuple #[.agg (tupc false (f 9) (fst16 f 16 4) (fst16 f 12 4) 0 0), .int .i64 (H : Int), .int .i64 0]) (results_row2 Try.results78 _ _ w.heap.size 26 (tupc false (f 9) (fst16 f 16 4) (fst16 f 12 4) 0 0) (0, 0) _ rfl (setRow_heap _ w.heap.size _ _ _ _ HS5.out.res) Try.underlying26 rfl (by kernel_rfl)) rfl ?_
            exact ⟨false, f 9, fst16 f 16 4, fst16 f 12 4, by rw [hRe], below_setRow HS5.out.below (Nat.le_refl _) _, fun _ => ⟨rfl, by rw [hRe], fun k _ => winS4 f k, fun k _ => winD4 f k⟩⟩
          · have c3' : (G % 8192 != 0) = true := by simpa using c3
            have hRe : R = (11, 0, 0) := HRE.out.trans (win4_3 N0.out N1.out N2.out (by rw [← HG.out]; exact c3))
            have hne : ¬ (11 : Int) = 0 := by decide
            go_wp2_with (first
              | (refine wpList_store_row rfl 26 (.tmp 2) (.tmp 44) rfl w.heap.size tupz rfl rfl 26 tupz HZ2.out (by kernel_rfl) rfl tupz_one ?_))
            refine bodyPost_ret (v := .tuple #[.agg tupz, .int .i64 0, .int .i64 11]) (results_row2 Try.results78 _ _ w.heap.size 26 tupz (0, 0) _ rfl (setRow_heap _ w.heap.size _ tupz _ _ HZ2.out) Try.underlying26 rfl (by kernel_rfl)) rfl ?_
            exact ⟨false, 0, fun _ => 0, fun _ => 0, by rw [hRe] <;> rfl, below_setRow HB2.out (Nat.le_refl _) _, fun h => absurd h (by rw [hRe]; first | exact hne | decide)⟩
    · have hv' : (f 0 / 16 != 4) = true := by simpa using hv
      have hRe : R = (5, 0, 0) := HRE.out.trans (win4_1 N0.out (.inl hv))
      have hne : ¬ (5 : Int) = 0 := by decide
      go_upto_region 5 with fail
      go_wp2_with (first
        | (refine wpList_store_row rfl 26 (.tmp 2) (.tmp 26) rfl w.heap.size tupz rfl rfl 26 tupz HZ1.out (by kernel_rfl) rfl tupz_one ?_))
      refine bodyPost_ret (v := .tuple #[.agg tupz, .int .i64 0, .int .i64 5]) (results_row2 Try.results78 _ _ w.heap.size 26 tupz (0, 0) _ rfl (setRow_heap _ w.heap.size _ tupz _ _ HZ1.out) Try.underlying26 rfl (by kernel_rfl)) rfl ?_
      exact ⟨false, 0, fun _ => 0, fun _ => 0, by rw [hRe] <;> rfl, below_setRow HB1.out (Nat.le_refl _) _, fun h => absurd h (by rw [hRe]; first | exact hne | decide)⟩
set_option maxRecDepth 100000 in
set_option maxHeartbeats 4000000 in
theorem back6_any (A : Option Addr) (n c : Nat) (f : Nat → Int) (hf : Byt f) (hn : n ≤ 140737488355328) (hcap : n ≤ c) (hc' : c ≤ 9223372036854775807) (w : World) (hr : Rd w w.heap.size A n f) :
    Calls Try.prog 79 #[.slice A n c] w (BkOut true (win6 f n) (winS true f) (winD true f) w) := by
  have HR := Lib.hid hr
  have HF := Lib.hid hf
  clear hr hf
  obtain ⟨R, hR⟩ : ∃ R, R = win6 f n := ⟨_, rfl⟩
  rw [← hR]
  have HRE := Lib.hid hR
  clear hR
  have HZ1 : Hid ((w.alloc (.cells tupz 26)).heap[w.heap.size]? = some (.cells tupz 26 (0, 0))) := heap_alloc_new w _
  have HB1 : Hid (Below w.heap.size w (w.alloc (.cells tupz 26))) := below_alloc w _
  go_enter Try.func79, Try.ntmps79
  go_upto_if 11 with fail
  change Code.wp _ _ _ _ (w.alloc (.cells tupz 26))
  generalize w.alloc (.cells tupz 26) = u1 at *
  by_cases c0 : n < 40
  · have c0' : (n : Int) < 40 := by omega
    have hRe : R = (4, 0, 0) := HRE.out.trans (win6_0 c0)
    have hne : ¬ (4 : Int) = 0 := by decide
    go_wp2_with (first
      | (refine wpList_store_row rfl 26 (.tmp 2) (.tmp 12) rfl w.heap.size tupz rfl rfl 26 tupz HZ1.out (by kernel_rfl) rfl tupz_one ?_))
    refine bodyPost_ret (v := .tuple #[.agg tupz, .int .i64 0, .int .i64 4]) (results_row2 Try.results79 _ _ w.heap.size 26 tupz (0, 0) _ rfl (setRow_heap _ w.heap.size _ tupz _ _ HZ1.out) Try.underlying26 rfl (by kernel_rfl)) rfl ?_
    exact ⟨false, 0, fun _ => 0, fun _ => 0, by rw [hRe] <;> rfl, below_setRow HB1.out (Nat.le_refl _) _, fun h => absurd h (by rw [hRe]; first | exact hne | decide)⟩
  · have N0 : Hid (¬ n < 40) := c0
    have c0' : (40 : Int) ≤ (n : Int) := by omega
    have n0 : 0 < n := by omega
    rcases HR.out with h0 | ⟨b, off, rfl, hbb, hcell⟩
    · omega
    have HC := Lib.hid hcell
    clear hcell
    have p0 := HF.out 0
    have x0 := (HB1.out.cell (p := ⟨b, off, none⟩) hbb).trans (HC.out 0 (by omega))
    go_upto_if 17 with fail
    clear x0
    by_cases hv : f 0 / 16 = 6
    · have hv' : (f 0 / 16 != 6) = false := by simpa using hv
      have N1 := Lib.hid hv
      clear hv
      obtain ⟨D, hsD, hrD⟩ := slice_any (some ⟨b, off, none⟩) n c 40 (by omega) hcap hc'
      have hsD' : ∀ W, (Instr.sliceAt 22 (.slice (some ⟨b, off, none⟩) n c) (some (.int .i64 40)) none none).run Try.prog W = .ok (.slice D (n - 40) (c - 40)) W := hsD
      have x6 := Stay.cell ((HB1.out.cell (p := ⟨b, off + 6, none⟩) hbb).trans (HC.out 6 (by omega)))
      have i6 : (6 : Int) < (n : Int) := by omega
      have HRb : Hid (Rd u1 u1.heap.size (some ⟨b, off, none⟩) n f) := (HR.out.keep HB1.out).more HB1.out.size
      obtain ⟨X, hX⟩ : ∃ X, X = chn (fun k => f (40 + k)) (n - 40) 8 (f 6) 0 := ⟨_, rfl⟩
      have HCH : Hid (∀ W : Stay u1, Calls Try.prog 36 #[.int .u8 (f 6), .slice D (n - 40) (c - 40)] W.w fun e w' => e = .returned (.tuple #[.int .u8 X.1, .int .i64 (X.2.1 : Int), .int .i64 X.2.2]) ∧ Below W.w.heap.size W.w w') := Lib.hid fun W => by
        rw [hX]
        exact chain_any (f 6) (HF.out 6) D (n - 40) (c - 40) (fun k => f (40 + k)) (fun k => HF.out _) (by omega) (by omega) (by omega) W.w (hrD _ _ _ (Stay.rd HRb.out W))
      have HXX : Hid (X = wch f n) := Lib.hid (by rw [hX]; rfl)
      obtain ⟨p, m, E⟩ := X
      clear hX hsD hrD
      go_upto_region 5 with fail
      refine wp_region_stay (by kernel_rfl) (by kernel_rfl) ?_
      repeat (go_big_quiet_step (first
        | (go_at_call 36; with_reducible exact Calls.stay _ (HCH.out _))))
      refine wpQuiet_nil ?_
      intro w' hw'
      obtain ⟨W, rfl⟩ := hw'
      have hb2 := W.below
      obtain ⟨u2, hu2⟩ : ∃ u, u = W.w := ⟨_, rfl⟩
      rw [← hu2] at hb2 ⊢
      clear hu2 W
      have HZ2 := Lib.hid ((hb2.block _ (lt_heap HZ1.out)).trans HZ1.out)
      have HB2 : Hid (Below w.heap.size w u2) := HB1.out.trans (hb2.mono HB1.out.size)
      clear hb2 HZ1 HB1 HCH x6 i6 HRb
      go_upto_if 30 with fail
      by_cases c3 : E = 0
      · subst c3
        have hRe : R = (0, 40 + m, p) := HRE.out.trans ((win6_3 N0.out N1.out (by rw [← HXX.out])).trans (by rw [← HXX.out]))
        have hmL : m ≤ n - 40 := (chn_same (f := fun k => f (40 + k)) (g := fun k => f (40 + k)) (N := n - 40) (N' := n - 40) 8 (f 6) 0 p m HXX.out.symm (Nat.zero_le _)).2.2
        have HQ : Hid ((u2.alloc (.cells tupz 26)).heap[u2.heap.size]? = some (.cells tupz 26 (0, 0))) := heap_alloc_new u2 _
        go_upto_region 9 with (first
          | (refine wpList_store_row rfl 26 (.tmp 8) (.tmp 34) rfl u2.heap.size (tupc true p (fun _ => 0) (fun _ => 0) 0 0) rfl rfl 26 tupz HQ.out (by kernel_rfl) rfl (tup_one ..) ?_))
        change Code.wp _ _ _ _ ((u2.alloc (.cells tupz 26)).setRow u2.heap.size (tupc true p (fun _ => 0) (fun _ => 0) 0 0))
        obtain ⟨q, hq⟩ : ∃ q, q = u2.heap.size := ⟨_, rfl⟩
        have HS3 := Lib.hid (TwS.new HZ2.out HB2.out tupz (tupc true p (fun _ => 0) (fun _ => 0) 0 0) q hq)
        rw [← hq]
        clear hq HQ HZ2 HB2
        generalize (u2.alloc (.cells tupz 26)).setRow q (tupc true p (fun _ => 0) (fun _ => 0) 0 0) = u3 at *
        obtain ⟨A8, hs8, hr8⟩ := slice_both b off n c 8 24 (by omega) (by omega) hcap hc'
        have hs8' : ∀ W, (Instr.sliceAt 22 (.slice (some ⟨b, off, none⟩) n c) (some (.int .i64 8)) (some (.int .i64 24)) none).run Try.prog W = .ok (.slice A8 16 (c - 8)) W := hs8
        have HR8 : Hid (Rd u3.drew u3.drew.heap.size A8 16 (fun k => f (8 + k))) := hr8 _ _ f ((HR.out.keep HS3.out.below.drew).more HS3.out.below.drew.size)
        clear hs8 hr8
        go_region_held3 (fun _ => True) (trivial)
          (first
          | (refine step_copy_row rfl (.tmp 36) (.tmp 38) _ rfl 5 Try.underlying22 (by kernel_rfl) HS3.out.drew.hd rfl rfl HR8.out 16 (by omega) (by omega) (by show 18 + 16 ≤ 36; omega) (tupc true p (fun _ => 0) (fst16 f 8 16) 0 0) rfl ?_))
        have HS4 := Lib.hid (HS3.out.drew.row (tupc true p (fun _ => 0) (fst16 f 8 16) 0 0))
        clear HS3 HR8 hs8'
        generalize u3.drew.setRow q (tupc true p (fun _ => 0) (fst16 f 8 16) 0 0) = u4 at *
        obtain ⟨A24, hs24, hr24⟩ := slice_both b off n c 24 40 (by omega) (by omega) hcap hc'
        have hs24' : ∀ W, (Instr.sliceAt 22 (.slice (some ⟨b, off, none⟩) n c) (some (.int .i64 24)) (some (.int .i64 40)) none).run Try.prog W = .ok (.slice A24 16 (c - 24)) W := hs24
        have HR24 : Hid (Rd u4.drew u4.drew.heap.size A24 16 (fun k => f (24 + k))) := hr24 _ _ f ((HR.out.keep HS4.out.below.drew).more HS4.out.below.drew.size)
        clear hs24 hr24
        go_upto_region 10 with fail
        go_region_held3 (fun _ => True) (trivial)
          (first
          | (refine step_copy_row rfl (.tmp 41) (.tmp 43) _ rfl 5 Try.underlying22 (by kernel_rfl) HS4.out.drew.hd rfl rfl HR24.out 16 (by omega) (by omega) (by show 2 + 16 ≤ 36; omega) (tupc true p (fst16 f 24 16) (fst16 f 8 16) 0 0) rfl ?_))
        have HS5 := Lib.hid (HS4.out.drew.row (tupc true p (fst16 f 24 16) (fst16 f 8 16) 0 0))
        clear HS4 HR24 hs24'
        generalize u4.drew.setRow q (tupc true p (fst16 f 24 16) (fst16 f 8 16) 0 0) = u5 at *
        have hw40 : IntKind.i64.wrap (40 + (m : Int)) = 40 + (m : Int) := by rw [IntKind.wrap_i64]; omega
        go_wp2_with (first
          | (refine wpList_load_row rfl 26 (.tmp 8) rfl q rfl 26 (tupc true p (fst16 f 24 16) (fst16 f 8 16) 0 0) (0, 0) _ HS5.out.hd Try.underlying26 rfl (by kernel_rfl) ?_)
          | (refine wpList_store_row rfl 26 (.tmp 2) (.tmp 45) rfl w.heap.size (tupc true p (fst16 f 24 16) (fst16 f 8 16) 0 0) rfl rfl 26 tupz HS5.out.res (by kernel_rfl) rfl (tup_one ..) ?_))
        refine bodyPost_ret (v := .tuple #[.agg (tupc true p (fst16 f 24 16) (fst16 f 8 16) 0 0), .int .i64 (40 + (m : Int)), .int .i64 0]) (results_row2 Try.results79 _ _ w.heap.size 26 (tupc true p (fst16 f 24 16) (fst16 f 8 16) 0 0) (0, 0) _ rfl (setRow_heap _ w.heap.size _ _ _ _ HS5.out.res) Try.underlying26 rfl (by kernel_rfl)) rfl ?_
        exact ⟨true, p, fst16 f 24 16, fst16 f 8 16, by rw [hRe]; simp, below_setRow HS5.out.below (Nat.le_refl _) _, fun _ => ⟨rfl, by rw [hRe], fun k hk => winS6 f k hk, fun k hk => winD6 f k hk⟩⟩
      · have c3' : (E != 0) = true := by simpa using c3
        have hRe : R = (E, 0, 0) := HRE.out.trans ((win6_2 N0.out N1.out (by rw [← HXX.out]; exact c3)).trans (by rw [← HXX.out]))
        have hne : ¬ E = 0 := c3
        go_wp2_with (first
          | (refine wpList_store_row rfl 26 (.tmp 2) (.tmp 31) rfl w.heap.size tupz rfl rfl 26 tupz HZ2.out (by kernel_rfl) rfl tupz_one ?_))
        refine bodyPost_ret (v := .tuple #[.agg tupz, .int .i64 0, .int .i64 E]) (results_row2 Try.results79 _ _ w.heap.size 26 tupz (0, 0) _ rfl (setRow_heap _ w.heap.size _ tupz _ _ HZ2.out) Try.underlying26 rfl (by kernel_rfl)) rfl ?_
        exact ⟨false, 0, fun _ => 0, fun _ => 0, by rw [hRe] <;> rfl, below_setRow HB2.out (Nat.le_refl _) _, fun h => absurd h (by rw [hRe]; first | exact hne | decide)⟩
    · have hv' : (f 0 / 16 != 6) = true := by simpa using hv
      have hRe : R = (5, 0, 0) := HRE.out.trans (win6_1 N0.out hv)
      have hne : ¬ (5 : Int) = 0 := by decide
      go_wp2_with (first
        | (refine wpList_store_row rfl 26 (.tmp 2) (.tmp 18) rfl w.heap.size tupz rfl rfl 26 tupz HZ1.out (by kernel_rfl) rfl tupz_one ?_))
      refine bodyPost_ret (v := .tuple #[.agg tupz, .int .i64 0, .int .i64 5]) (results_row2 Try.results79 _ _ w.heap.size 26 tupz (0, 0) _ rfl (setRow_heap _ w.heap.size _ tupz _ _ HZ1.out) Try.underlying26 rfl (by kernel_rfl)) rfl ?_
      exact ⟨false, 0, fun _ => 0, fun _ => 0, by rw [hRe] <;> rfl, below_setRow HB1.out (Nat.le_refl _) _, fun h => absurd h (by rw [hRe]; first | exact hne | decide)⟩
end Go.Proofs.Ytlchegibfopglaa
/- The document's Num (seg). -/
namespace Go.Proofs.Ytlchegibfopglaa
set_option maxRecDepth 100000
open Go.RowKit
/-- A number of some bytes; what is left of one; its bytes. -/
def numk (f : Nat → Int) (a : Nat) : Nat → Int
  | 0 => 0
  | k + 1 => numk f a k * 256 + f (a + k)
theorem numk_2 (f : Nat → Int) (a : Nat) : numk f a 2 = w2 f a := by
  unfold w2
  show (0 * 256 + f (a + 0)) * 256 + f (a + 1) = _
  rw [Nat.add_zero]
  omega
theorem numk_4 (f : Nat → Int) (a : Nat) : numk f a 4 = w4 f a := by
  unfold w4
  show (((0 * 256 + f (a + 0)) * 256 + f (a + 1)) * 256 + f (a + 2)) * 256 + f (a + 3) = _
  rw [Nat.add_zero]
  omega
theorem numk_bd {f : Nat → Int} (hf : Byt f) (a k : Nat) (hk : k < 4) : 0 ≤ numk f a k ∧ numk f a k ≤ 16777215 := by
  have b0 := hf a
  have b1 := hf (a + 1)
  have b2 := hf (a + 2)
  obtain rfl | rfl | rfl | rfl : k = 0 ∨ k = 1 ∨ k = 2 ∨ k = 3 := by omega
  · exact ⟨Int.le_refl 0, (by decide : (0 : Int) ≤ 16777215)⟩
  · show 0 ≤ 0 * 256 + f (a + 0) ∧ 0 * 256 + f (a + 0) ≤ 16777215
    rw [Nat.add_zero]
    omega
  · rw [numk_2]
    unfold w2
    omega
  · show 0 ≤ numk f a 2 * 256 + f (a + 2) ∧ numk f a 2 * 256 + f (a + 2) ≤ 16777215
    rw [numk_2]
    unfold w2
    omega
set_option maxHeartbeats 1000000 in
theorem rnum_any (A : Option Addr) (n c a m : Nat) (f : Nat → Int) (hf : Byt f) (hm : m ≤ 4) (ham : a + m ≤ n) (hn : n ≤ 4611686018427387904) (w : World) (B : Nat) (hr : Rd w B A n f) :
    Calls Try.prog 30 #[.slice A n c, .int .i64 (a : Int), .int .i64 (m : Int)] w fun e w' => e = .returned (.int .u32 (numk f a m)) ∧ w = w' := by
  have HR := Lib.hid hr
  have HF := Lib.hid hf
  clear hr hf
  go_enter Try.func30, Try.ntmps30
  go_wp2
  go_loopw [7, 8] (fun x y wr => ∃ k : Nat, k ≤ m ∧ x = .int .u32 (numk f a k) ∧ y = .int .i64 (k : Int) ∧ w = wr) (fun _ y _ => m - (intOf y).toNat)
  case atStart => exact ⟨0, by omega, rfl, rfl, by first | rfl | trivial⟩
  case round =>
    obtain ⟨k, hk, rfl, rfl, rfl⟩ := hrel
    by_cases hlt : k < m
    · rcases HR.out with h0 | ⟨b, off, rfl, hbb, hcell⟩
      · omega
      have hx := hcell (a + k) (by omega)
      obtain ⟨q0, q1⟩ := numk_bd HF.out a k (by omega)
      obtain ⟨q3, q4⟩ := HF.out (a + k)
      have i0 : (k : Int) < (m : Int) := by omega
      have i1 : (0 : Int) ≤ (a : Int) + (k : Int) := by omega
      have i2 : (a : Int) + (k : Int) < (n : Int) := by omega
      have i3 : ((a : Int) + (k : Int)).toNat = a + k := by omega
      have i4 : IntKind.u32.wrap (numk f a k * 256) = numk f a k * 256 := by rw [IntKind.wrap_u32']; omega
      have i5 : IntKind.u32.wrap (f (a + k)) = f (a + k) := by rw [IntKind.wrap_u32']; omega
      have i6 : IntKind.u32.wrap (numk f a k * 256 + f (a + k)) = numk f a k * 256 + f (a + k) := by rw [IntKind.wrap_u32']; omega
      have i7 : IntKind.i64.wrap ((k : Int) + 1) = (k : Int) + 1 := by rw [IntKind.wrap_i64]; omega
      have i8 : IntKind.i64.wrap ((a : Int) + (k : Int)) = (a : Int) + (k : Int) := by rw [IntKind.wrap_i64]; omega
      clear q0 q1 q3 q4 hcell
      go_wp2
      go_roundw
      case rel => exact ⟨k + 1, by omega, rfl, by simp, by first | rfl | trivial⟩
      case measure => simp [intOf]; omega
    · obtain rfl : k = m := by omega
      go_wp2
      go_ret
      exact ⟨rfl, rfl⟩
end Go.Proofs.Ytlchegibfopglaa
/- Layer 6, the document: the header of a packet within (four, six). -/
namespace Go.Proofs.Ytlchegibfopglaa
set_option maxRecDepth 100000
open Go.RowKit
set_option maxRecDepth 100000 in
set_option maxHeartbeats 4000000 in
theorem four_any (A : Option Addr) (n c : Nat) (f : Nat → Int) (hf : Byt f) (hn : n ≤ 140737488355328) (hcap : n ≤ c) (hc' : c ≤ 9223372036854775807) (w : World) (hr : Rd w w.heap.size A n f) :
    Calls Try.prog 53 #[.slice A n c] w (BkOut false (win4 f n) (winS false f) (winD false f) w) := by
  have HR := Lib.hid hr
  have HF := Lib.hid hf
  clear hr hf
  obtain ⟨R, hR⟩ : ∃ R, R = win4 f n := ⟨_, rfl⟩
  rw [← hR]
  have HRE := Lib.hid hR
  clear hR
  have HZ1 : Hid ((w.alloc (.cells tupz 26)).heap[w.heap.size]? = some (.cells tupz 26 (0, 0))) := heap_alloc_new w _
  have e1 : (w.alloc (.cells tupz 26)).heap.size = w.heap.size + 1 := by simp
  have HB1 : Hid (Below w.heap.size w (w.alloc (.cells tupz 26))) := below_alloc w _
  have HQ : Hid (((w.alloc (.cells tupz 26)).alloc (.cells tupz 26)).heap[w.heap.size + 1]? = some (.cells tupz 26 (0, 0))) := by rw [← e1]; exact heap_alloc_new _ _
  have HS1 := Lib.hid (TwS.new HZ1.out HB1.out tupz (tupc false 0 (fun _ => 0) (fun _ => 0) 0 0) (w.heap.size + 1) e1.symm)
  go_enter Try.func53, Try.ntmps53
  go_upto_if 10 with (first
    | (refine wpList_store_row rfl 26 (.tmp 5) (.tmp 7) rfl (w.heap.size + 1) (tupc false 0 (fun _ => 0) (fun _ => 0) 0 0) rfl rfl 26 tupz HQ.out (by kernel_rfl) rfl (tup_one ..) ?_))
  change Code.wp _ _ _ _ (((w.alloc (.cells tupz 26)).alloc (.cells tupz 26)).setRow (w.heap.size + 1) (tupc false 0 (fun _ => 0) (fun _ => 0) 0 0))
  clear HQ HZ1 HB1 e1
  generalize ((w.alloc (.cells tupz 26)).alloc (.cells tupz 26)).setRow (w.heap.size + 1) (tupc false 0 (fun _ => 0) (fun _ => 0) 0 0) = u1 at *
  obtain ⟨q, hq⟩ : ∃ q, q = w.heap.size + 1 := ⟨_, rfl⟩
  rw [← hq] at HS1 ⊢
  clear hq
  by_cases c0 : n < 20
  · have c0' : (n : Int) < 20 := by omega
    have hRe : R = (4, 0, 0) := HRE.out.trans (win4_0 c0)
    have hne : ¬ (4 : Int) = 0 := by decide
    go_wp2_with (first
      | (refine wpList_load_row rfl 26 (.tmp 5) rfl q rfl 26 (tupc false 0 (fun _ => 0) (fun _ => 0) 0 0) (0, 0) _ HS1.out.hd Try.underlying26 rfl (by kernel_rfl) ?_)
      | (refine wpList_store_row rfl 26 (.tmp 2) (.tmp 11) rfl w.heap.size (tupc false 0 (fun _ => 0) (fun _ => 0) 0 0) rfl rfl 26 tupz HS1.out.res (by kernel_rfl) rfl (tup_one ..) ?_))
    refine bodyPost_ret (v := .tuple #[.agg (tupc false 0 (fun _ => 0) (fun _ => 0) 0 0), .int .i64 0, .int .i64 4]) (results_row2 Try.results53 _ _ w.heap.size 26 (tupc false 0 (fun _ => 0) (fun _ => 0) 0 0) (0, 0) _ rfl (setRow_heap _ w.heap.size _ (tupc false 0 (fun _ => 0) (fun _ => 0) 0 0) _ _ HS1.out.res) Try.underlying26 rfl (by kernel_rfl)) rfl ?_
    exact ⟨false, 0, fun _ => 0, fun _ => 0, by first | rfl | (rw [hRe] <;> rfl), below_setRow HS1.out.below (Nat.le_refl _) _, fun h => absurd h (by first | exact hne | (rw [hRe]; exact hne))⟩
  · have N0 : Hid (¬ n < 20) := c0
    have c0' : (20 : Int) ≤ (n : Int) := by omega
    have n0 : 0 < n := by omega
    rcases HR.out with h0 | ⟨b, off, rfl, hbb, hcell⟩
    · omega
    have HC := Lib.hid hcell
    clear hcell
    have p0 := HF.out 0
    have x0 := (HS1.out.below.cell (p := ⟨b, off, none⟩) hbb).trans (HC.out 0 (by omega))
    have t0 : (f 0).tmod 16 = f 0 % 16 := Int.tmod_eq_emod_of_nonneg p0.1
    have t1 : (f 0).tdiv 16 = f 0 / 16 := Int.tdiv_eq_ediv_of_nonneg p0.1
    obtain ⟨H, hH⟩ : ∃ H, H = 4 * (f 0 % 16).toNat := ⟨_, rfl⟩
    have HH := Lib.hid hH
    have hH' : f 0 % 16 * 4 = (H : Int) := by omega
    have hHb : H ≤ 60 := by omega
    clear hH
    go_upto_region 5 with fail
    clear t0 hH'
    by_cases hv : f 0 / 16 = 4
    · have hv' : (f 0 / 16 != 4) = false := by simpa using hv
      by_cases c1 : H < 20
      · have c1' : (H : Int) < 20 := by omega
        have hRe : R = (5, 0, 0) := HRE.out.trans (win4_1 N0.out (.inr (by rw [← HH.out]; exact c1)))
        have hne : ¬ (5 : Int) = 0 := by decide
        go_upto_region 6 with fail
        go_wp2_with (first
          | (refine wpList_load_row rfl 26 (.tmp 5) rfl q rfl 26 (tupc false 0 (fun _ => 0) (fun _ => 0) 0 0) (0, 0) _ HS1.out.hd Try.underlying26 rfl (by kernel_rfl) ?_)
          | (refine wpList_store_row rfl 26 (.tmp 2) (.tmp 27) rfl w.heap.size (tupc false 0 (fun _ => 0) (fun _ => 0) 0 0) rfl rfl 26 tupz HS1.out.res (by kernel_rfl) rfl (tup_one ..) ?_))
        refine bodyPost_ret (v := .tuple #[.agg (tupc false 0 (fun _ => 0) (fun _ => 0) 0 0), .int .i64 0, .int .i64 5]) (results_row2 Try.results53 _ _ w.heap.size 26 (tupc false 0 (fun _ => 0) (fun _ => 0) 0 0) (0, 0) _ rfl (setRow_heap _ w.heap.size _ (tupc false 0 (fun _ => 0) (fun _ => 0) 0 0) _ _ HS1.out.res) Try.underlying26 rfl (by kernel_rfl)) rfl ?_
        exact ⟨false, 0, fun _ => 0, fun _ => 0, by first | rfl | (rw [hRe] <;> rfl), below_setRow HS1.out.below (Nat.le_refl _) _, fun h => absurd h (by first | exact hne | (rw [hRe]; exact hne))⟩
      · have c1' : (20 : Int) ≤ (H : Int) := by omega
        have N1 : Hid (¬ (f 0 / 16 ≠ 4 ∨ 4 * (f 0 % 16).toNat < 20)) := fun q => by
          rcases q with q | q
          · exact q hv
          · rw [← HH.out] at q; exact c1 q
        go_upto_if 31 with fail
        clear x0 hv hv' t1
        by_cases c2 : n < H
        · have c2' : (n : Int) < (H : Int) := by omega
          have hRe : R = (4, 0, 0) := HRE.out.trans (win4_2 N0.out N1.out (by rw [← HH.out]; exact c2))
          have hne : ¬ (4 : Int) = 0 := by decide
          go_wp2_with (first
            | (refine wpList_load_row rfl 26 (.tmp 5) rfl q rfl 26 (tupc false 0 (fun _ => 0) (fun _ => 0) 0 0) (0, 0) _ HS1.out.hd Try.underlying26 rfl (by kernel_rfl) ?_)
            | (refine wpList_store_row rfl 26 (.tmp 2) (.tmp 32) rfl w.heap.size (tupc false 0 (fun _ => 0) (fun _ => 0) 0 0) rfl rfl 26 tupz HS1.out.res (by kernel_rfl) rfl (tup_one ..) ?_))
          refine bodyPost_ret (v := .tuple #[.agg (tupc false 0 (fun _ => 0) (fun _ => 0) 0 0), .int .i64 0, .int .i64 4]) (results_row2 Try.results53 _ _ w.heap.size 26 (tupc false 0 (fun _ => 0) (fun _ => 0) 0 0) (0, 0) _ rfl (setRow_heap _ w.heap.size _ (tupc false 0 (fun _ => 0) (fun _ => 0) 0 0) _ _ HS1.out.res) Try.underlying26 rfl (by kernel_rfl)) rfl ?_
          exact ⟨false, 0, fun _ => 0, fun _ => 0, by first | rfl | (rw [hRe] <;> rfl), below_setRow HS1.out.below (Nat.le_refl _) _, fun h => absurd h (by first | exact hne | (rw [hRe]; exact hne))⟩
        · have N2 : Hid (¬ n < 4 * (f 0 % 16).toNat) := by rw [← HH.out]; exact c2
          have c2' : (H : Int) ≤ (n : Int) := by omega
          have HN6 : Hid (∀ W B, Rd W B (some ⟨b, off, none⟩) n f → Calls Try.prog 30 #[.slice (some ⟨b, off, none⟩) n c, .int .i64 6, .int .i64 2] W fun e w' => e = .returned (.int .u32 (w2 f 6)) ∧ W = w') := Lib.hid fun W B hr => by
            have h := rnum_any (some ⟨b, off, none⟩) n c 6 2 f HF.out (by omega) (by omega) (by omega) W B hr
            rw [numk_2] at h
            exact h
          have HRd1 := Lib.hid (.inr ⟨b, off, rfl, hbb, fun k hk => (HS1.out.below.cell (p := ⟨b, off + k, none⟩) hbb).trans (HC.out k hk)⟩ : Rd u1 w.heap.size (some ⟨b, off, none⟩) n f)
          have pG := w2_bd HF.out 6
          obtain ⟨G, hG⟩ : ∃ G, G = w2 f 6 := ⟨_, rfl⟩
          rw [← hG] at HN6 pG
          have HG := Lib.hid hG
          have tG : G.tmod 8192 = G % 8192 := Int.tmod_eq_emod_of_nonneg pG.1
          clear hG
          go_wp2_with fail
          go_at_call 30
          refine (HN6.out _ _ HRd1.out).mono ?_
          rintro e w' ⟨rfl, rfl⟩
          go_upto_if 36 with fail
          clear HN6 HRd1 tG pG
          by_cases c3 : G % 8192 = 0
          · have c3' : (G % 8192 != 0) = false := by simpa using c3
            have hRe : R = (0, H, f 9) := by rw [HH.out]; exact HRE.out.trans (win4_4 N0.out N1.out N2.out (by rw [← HG.out]; exact c3))
            have x9 := (HS1.out.below.cell (p := ⟨b, off + 9, none⟩) hbb).trans (HC.out 9 (by omega))
            have i9 : (9 : Int) < (n : Int) := by omega
            have x1 : u1.cell? ⟨q, 1, none⟩ = some (.int .u8 0) := blk_cell HS1.out.hd 1
            have y1 := blk_free HS1.out.hd 1
            have HS2 := Lib.hid (HS1.out.set 1 (.int .u8 (f 9)))
            rw [tup_proto] at HS2
            go_upto_region 12 with fail
            clear x9 i9 x1 y1 HS1 c3 c3'
            generalize u1.setCell ⟨q, 1, none⟩ (.int .u8 (f 9)) = u2 at *
            have HA1 := Lib.hid (addr_any b off n c 16 4 f (by omega) (by omega) (by omega) u2 (Nat.lt_of_lt_of_le hbb HS2.out.below.size) (fun k hk => (HS2.out.below.cell (p := ⟨b, off + k, none⟩) hbb).trans (HC.out k hk)))
            go_upto_region 13 with (first
              | (go_at_call 68; refine HA1.out.mono ?_; rintro e u3 ⟨rfl, hb3⟩; have HS3 := Lib.hid (HS2.out.step hb3); clear hb3)
              | (refine wpList_store_mid rfl 23 (.tmp 44) (.tmp 43) rfl q 2 (arr16 (fst16 f 16 4)) rfl rfl (blk_there HS3.out.hd (by show 2 + 16 ≤ 36; omega)) (by kernel_rfl) (arr16_one _) ?_))
            have HS4 := Lib.hid (HS3.out.cells 2 (arr16 (fst16 f 16 4)).toList)
            rw [tup_src] at HS4
            clear HS2 HS3 HA1
            generalize u3.setCells q 2 (arr16 (fst16 f 16 4)).toList = u4 at *
            have HA2 := Lib.hid (addr_any b off n c 12 4 f (by omega) (by omega) (by omega) u4 (Nat.lt_of_lt_of_le hbb HS4.out.below.size) (fun k hk => (HS4.out.below.cell (p := ⟨b, off + k, none⟩) hbb).trans (HC.out k hk)))
            go_upto_region 14 with (first
              | (go_at_call 68; refine HA2.out.mono ?_; rintro e u5 ⟨rfl, hb5⟩; have HS5 := Lib.hid (HS4.out.step hb5); clear hb5)
              | (refine wpList_store_mid rfl 23 (.tmp 47) (.tmp 46) rfl q 18 (arr16 (fst16 f 12 4)) rfl rfl (blk_there HS5.out.hd (by show 18 + 16 ≤ 36; omega)) (by kernel_rfl) (arr16_one _) ?_))
            have HS6 := Lib.hid (HS5.out.cells 18 (arr16 (fst16 f 12 4)).toList)
            rw [tup_dst] at HS6
            clear HS4 HS5 HA2
            generalize u5.setCells q 18 (arr16 (fst16 f 12 4)).toList = u6 at *
            go_wp2_with (first
              | (refine wpList_load_row rfl 26 (.tmp 5) rfl q rfl 26 (tupc false (f 9) (fst16 f 16 4) (fst16 f 12 4) 0 0) (0, 0) _ HS6.out.hd Try.underlying26 rfl (by kernel_rfl) ?_)
              | (refine wpList_store_row rfl 26 (.tmp 2) (.tmp 48) rfl w.heap.size (tupc false (f 9) (fst16 f 16 4) (fst16 f 12 4) 0 0) rfl rfl 26 tupz HS6.out.res (by kernel_rfl) rfl (tup_one ..) ?_))
            refine bodyPost_ret (v := .tuple #[.agg (tupc false (f 9) (fst16 f 16 4) (fst16 f 12 4) 0 0), .int .i64 (H : Int), .int .i64 0]) (results_row2 Try.results53 _ _ w.heap.size 26 (tupc false (f 9) (fst16 f 16 4) (fst16 f 12 4) 0 0) (0, 0) _ rfl (setRow_heap _ w.heap.size _ _ _ _ HS6.out.res) Try.underlying26 rfl (by kernel_rfl)) rfl ?_
            exact ⟨false, f 9, fst16 f 16 4, fst16 f 12 4, by rw [hRe], below_setRow HS6.out.below (Nat.le_refl _) _, fun _ => ⟨rfl, by rw [hRe], fun k _ => winS4 f k, fun k _ => winD4 f k⟩⟩
          · have c3' : (G % 8192 != 0) = true := by simpa using c3
            have hRe : R = (11, 0, 0) := HRE.out.trans (win4_3 N0.out N1.out N2.out (by rw [← HG.out]; exact c3))
            have hne : ¬ (11 : Int) = 0 := by decide
            go_wp2_with (first
              | (refine wpList_load_row rfl 26 (.tmp 5) rfl q rfl 26 (tupc false 0 (fun _ => 0) (fun _ => 0) 0 0) (0, 0) _ HS1.out.hd Try.underlying26 rfl (by kernel_rfl) ?_)
              | (refine wpList_store_row rfl 26 (.tmp 2) (.tmp 37) rfl w.heap.size (tupc false 0 (fun _ => 0) (fun _ => 0) 0 0) rfl rfl 26 tupz HS1.out.res (by kernel_rfl) rfl (tup_one ..) ?_))
            refine bodyPost_ret (v := .tuple #[.agg (tupc false 0 (fun _ => 0) (fun _ => 0) 0 0), .int .i64 0, .int .i64 11]) (results_row2 Try.results53 _ _ w.heap.size 26 (tupc false 0 (fun _ => 0) (fun _ => 0) 0 0) (0, 0) _ rfl (setRow_heap _ w.heap.size _ (tupc false 0 (fun _ => 0) (fun _ => 0) 0 0) _ _ HS1.out.res) Try.underlying26 rfl (by kernel_rfl)) rfl ?_
            exact ⟨false, 0, fun _ => 0, fun _ => 0, by first | rfl | (rw [hRe] <;> rfl), below_setRow HS1.out.below (Nat.le_refl _) _, fun h => absurd h (by first | exact hne | (rw [hRe]; exact hne))⟩
    · have hv' : (f 0 / 16 != 4) = true := by simpa using hv
      have hRe : R = (5, 0, 0) := HRE.out.trans (win4_1 N0.out (.inl hv))
      have hne : ¬ (5 : Int) = 0 := by decide
      go_upto_region 6 with fail
      go_wp2_with (first
        | (refine wpList_load_row rfl 26 (.tmp 5) rfl q rfl 26 (tupc false 0 (fun _ => 0) (fun _ => 0) 0 0) (0, 0) _ HS1.out.hd Try.underlying26 rfl (by kernel_rfl) ?_)
        | (refine wpList_store_row rfl 26 (.tmp 2) (.tmp 27) rfl w.heap.size (tupc false 0 (fun _ => 0) (fun _ => 0) 0 0) rfl rfl 26 tupz HS1.out.res (by kernel_rfl) rfl (tup_one ..) ?_))
      refine bodyPost_ret (v := .tuple #[.agg (tupc false 0 (fun _ => 0) (fun _ => 0) 0 0), .int .i64 0, .int .i64 5]) (results_row2 Try.results53 _ _ w.heap.size 26 (tupc false 0 (fun _ => 0) (fun _ => 0) 0 0) (0, 0) _ rfl (setRow_heap _ w.heap.size _ (tupc false 0 (fun _ => 0) (fun _ => 0) 0 0) _ _ HS1.out.res) Try.underlying26 rfl (by kernel_rfl)) rfl ?_
      exact ⟨false, 0, fun _ => 0, fun _ => 0, by first | rfl | (rw [hRe] <;> rfl), below_setRow HS1.out.below (Nat.le_refl _) _, fun h => absurd h (by first | exact hne | (rw [hRe]; exact hne))⟩
set_option maxRecDepth 100000 in
set_option maxHeartbeats 4000000 in
theorem six_any (A : Option Addr) (n c : Nat) (f : Nat → Int) (hf : Byt f) (hn : n ≤ 140737488355328) (hcap : n ≤ c) (hc' : c ≤ 9223372036854775807) (w : World) (hr : Rd w w.heap.size A n f) :
    Calls Try.prog 54 #[.slice A n c] w (BkOut true (win6 f n) (winS true f) (winD true f) w) := by
  have HR := Lib.hid hr
  have HF := Lib.hid hf
  clear hr hf
  obtain ⟨R, hR⟩ : ∃ R, R = win6 f n := ⟨_, rfl⟩
  rw [← hR]
  have HRE := Lib.hid hR
  clear hR
  have HZ1 : Hid ((w.alloc (.cells tupz 26)).heap[w.heap.size]? = some (.cells tupz 26 (0, 0))) := heap_alloc_new w _
  have e1 : (w.alloc (.cells tupz 26)).heap.size = w.heap.size + 1 := by simp
  have HB1 : Hid (Below w.heap.size w (w.alloc (.cells tupz 26))) := below_alloc w _
  have HQ : Hid (((w.alloc (.cells tupz 26)).alloc (.cells tupz 26)).heap[w.heap.size + 1]? = some (.cells tupz 26 (0, 0))) := by rw [← e1]; exact heap_alloc_new _ _
  have HS1 := Lib.hid (TwS.new HZ1.out HB1.out tupz (tupc true 0 (fun _ => 0) (fun _ => 0) 0 0) (w.heap.size + 1) e1.symm)
  go_enter Try.func54, Try.ntmps54
  go_upto_if 12 with (first
    | (refine wpList_store_row rfl 26 (.tmp 5) (.tmp 9) rfl (w.heap.size + 1) (tupc true 0 (fun _ => 0) (fun _ => 0) 0 0) rfl rfl 26 tupz HQ.out (by kernel_rfl) rfl (tup_one ..) ?_))
  change Code.wp _ _ _ _ (((w.alloc (.cells tupz 26)).alloc (.cells tupz 26)).setRow (w.heap.size + 1) (tupc true 0 (fun _ => 0) (fun _ => 0) 0 0))
  clear HQ HZ1 HB1 e1
  generalize ((w.alloc (.cells tupz 26)).alloc (.cells tupz 26)).setRow (w.heap.size + 1) (tupc true 0 (fun _ => 0) (fun _ => 0) 0 0) = u1 at *
  obtain ⟨q, hq⟩ : ∃ q, q = w.heap.size + 1 := ⟨_, rfl⟩
  rw [← hq] at HS1 ⊢
  clear hq
  by_cases c0 : n < 40
  · have c0' : (n : Int) < 40 := by omega
    have hRe : R = (4, 0, 0) := HRE.out.trans (win6_0 c0)
    have hne : ¬ (4 : Int) = 0 := by decide
    go_wp2_with (first
      | (refine wpList_load_row rfl 26 (.tmp 5) rfl q rfl 26 (tupc true 0 (fun _ => 0) (fun _ => 0) 0 0) (0, 0) _ HS1.out.hd Try.underlying26 rfl (by kernel_rfl) ?_)
      | (refine wpList_store_row rfl 26 (.tmp 2) (.tmp 13) rfl w.heap.size (tupc true 0 (fun _ => 0) (fun _ => 0) 0 0) rfl rfl 26 tupz HS1.out.res (by kernel_rfl) rfl (tup_one ..) ?_))
    refine bodyPost_ret (v := .tuple #[.agg (tupc true 0 (fun _ => 0) (fun _ => 0) 0 0), .int .i64 0, .int .i64 4]) (results_row2 Try.results54 _ _ w.heap.size 26 (tupc true 0 (fun _ => 0) (fun _ => 0) 0 0) (0, 0) _ rfl (setRow_heap _ w.heap.size _ (tupc true 0 (fun _ => 0) (fun _ => 0) 0 0) _ _ HS1.out.res) Try.underlying26 rfl (by kernel_rfl)) rfl ?_
    exact ⟨true, 0, fun _ => 0, fun _ => 0, by first | rfl | (rw [hRe] <;> rfl), below_setRow HS1.out.below (Nat.le_refl _) _, fun h => absurd h (by first | exact hne | (rw [hRe]; exact hne))⟩
  · have N0 : Hid (¬ n < 40) := c0
    have c0' : (40 : Int) ≤ (n : Int) := by omega
    have n0 : 0 < n := by omega
    rcases HR.out with h0 | ⟨b, off, rfl, hbb, hcell⟩
    · omega
    have HC := Lib.hid hcell
    clear hcell
    have p0 := HF.out 0
    have t1 : (f 0).tdiv 16 = f 0 / 16 := Int.tdiv_eq_ediv_of_nonneg p0.1
    have x0 := (HS1.out.below.cell (p := ⟨b, off, none⟩) hbb).trans (HC.out 0 (by omega))
    go_upto_if 18 with fail
    clear x0 t1
    by_cases hv : f 0 / 16 = 6
    · have hv' : (f 0 / 16 != 6) = false := by simpa using hv
      have N1 := Lib.hid hv
      clear hv
      obtain ⟨D, hsD, hrD⟩ := slice_any (some ⟨b, off, none⟩) n c 40 (by omega) hcap hc'
      have hsD' : ∀ W, (Instr.sliceAt 22 (.slice (some ⟨b, off, none⟩) n c) (some (.int .i64 40)) none none).run Try.prog W = .ok (.slice D (n - 40) (c - 40)) W := hsD
      have x6 := Stay.cell ((HS1.out.below.cell (p := ⟨b, off + 6, none⟩) hbb).trans (HC.out 6 (by omega)))
      have i6 : (6 : Int) < (n : Int) := by omega
      have HRb : Hid (Rd u1 u1.heap.size (some ⟨b, off, none⟩) n f) := (HR.out.keep HS1.out.below).more HS1.out.below.size
      obtain ⟨X, hX⟩ : ∃ X, X = chn (fun k => f (40 + k)) (n - 40) 8 (f 6) 0 := ⟨_, rfl⟩
      have HCH : Hid (∀ W : Stay u1, Calls Try.prog 44 #[.int .u8 (f 6), .slice D (n - 40) (c - 40)] W.w fun e w' => e = .returned (.tuple #[.int .u8 X.1, .int .i64 (X.2.1 : Int), .int .i64 X.2.2]) ∧ Below W.w.heap.size W.w w') := Lib.hid fun W => by
        rw [hX]
        exact rchain_any (f 6) (HF.out 6) D (n - 40) (c - 40) (fun k => f (40 + k)) (fun k => HF.out _) (by omega) (by omega) (by omega) W.w (hrD _ _ _ (Stay.rd HRb.out W))
      have HXX : Hid (X = wch f n) := Lib.hid (by rw [hX]; rfl)
      obtain ⟨p, m, E⟩ := X
      clear hX hsD hrD
      go_upto_region 6 with fail
      refine wp_region_stay (by kernel_rfl) (by kernel_rfl) ?_
      repeat (go_big_quiet_step (first
        | (go_at_call 44; with_reducible exact Calls.stay _ (HCH.out _))))
      refine wpQuiet_nil ?_
      intro w' hw'
      obtain ⟨W, rfl⟩ := hw'
      have hb2 := W.below
      obtain ⟨u2, hu2⟩ : ∃ u, u = W.w := ⟨_, rfl⟩
      rw [← hu2] at hb2 ⊢
      clear hu2 W
      have HS2 := Lib.hid (HS1.out.step hb2)
      clear hb2 HS1 HCH x6 i6 HRb
      go_upto_if 31 with fail
      by_cases c3 : E = 0
      · subst c3
        have hRe : R = (0, 40 + m, p) := HRE.out.trans ((win6_3 N0.out N1.out (by rw [← HXX.out])).trans (by rw [← HXX.out]))
        have hmL : m ≤ n - 40 := (chn_same (f := fun k => f (40 + k)) (g := fun k => f (40 + k)) (N := n - 40) (N' := n - 40) 8 (f 6) 0 p m HXX.out.symm (Nat.zero_le _)).2.2
        have x1 : u2.cell? ⟨q, 1, none⟩ = some (.int .u8 0) := blk_cell HS2.out.hd 1
        have y1 := blk_free HS2.out.hd 1
        have HS3 := Lib.hid (HS2.out.set 1 (.int .u8 p))
        rw [tup_proto] at HS3
        go_upto_region 10 with fail
        clear x1 y1 HS2
        generalize u2.setCell ⟨q, 1, none⟩ (.int .u8 p) = u3 at *
        have HA1 := Lib.hid (addr_any b off n c 24 16 f (by omega) (by omega) (by omega) u3 (Nat.lt_of_lt_of_le hbb HS3.out.below.size) (fun k hk => (HS3.out.below.cell (p := ⟨b, off + k, none⟩) hbb).trans (HC.out k hk)))
        go_upto_region 11 with (first
          | (go_at_call 68; refine HA1.out.mono ?_; rintro e u4 ⟨rfl, hb4⟩; have HS4 := Lib.hid (HS3.out.step hb4); clear hb4)
          | (refine wpList_store_mid rfl 23 (.tmp 38) (.tmp 37) rfl q 2 (arr16 (fst16 f 24 16)) rfl rfl (blk_there HS4.out.hd (by show 2 + 16 ≤ 36; omega)) (by kernel_rfl) (arr16_one _) ?_))
        have HS5 := Lib.hid (HS4.out.cells 2 (arr16 (fst16 f 24 16)).toList)
        rw [tup_src] at HS5
        clear HS3 HS4 HA1
        generalize u4.setCells q 2 (arr16 (fst16 f 24 16)).toList = u5 at *
        have HA2 := Lib.hid (addr_any b off n c 8 16 f (by omega) (by omega) (by omega) u5 (Nat.lt_of_lt_of_le hbb HS5.out.below.size) (fun k hk => (HS5.out.below.cell (p := ⟨b, off + k, none⟩) hbb).trans (HC.out k hk)))
        go_upto_region 12 with (first
          | (go_at_call 68; refine HA2.out.mono ?_; rintro e u6 ⟨rfl, hb6⟩; have HS6 := Lib.hid (HS5.out.step hb6); clear hb6)
          | (refine wpList_store_mid rfl 23 (.tmp 41) (.tmp 40) rfl q 18 (arr16 (fst16 f 8 16)) rfl rfl (blk_there HS6.out.hd (by show 18 + 16 ≤ 36; omega)) (by kernel_rfl) (arr16_one _) ?_))
        have HS7 := Lib.hid (HS6.out.cells 18 (arr16 (fst16 f 8 16)).toList)
        rw [tup_dst] at HS7
        clear HS5 HS6 HA2
        generalize u6.setCells q 18 (arr16 (fst16 f 8 16)).toList = u7 at *
        have hw40 : IntKind.i64.wrap (40 + (m : Int)) = 40 + (m : Int) := by rw [IntKind.wrap_i64]; omega
        go_wp2_with (first
          | (refine wpList_load_row rfl 26 (.tmp 5) rfl q rfl 26 (tupc true p (fst16 f 24 16) (fst16 f 8 16) 0 0) (0, 0) _ HS7.out.hd Try.underlying26 rfl (by kernel_rfl) ?_)
          | (refine wpList_store_row rfl 26 (.tmp 2) (.tmp 42) rfl w.heap.size (tupc true p (fst16 f 24 16) (fst16 f 8 16) 0 0) rfl rfl 26 tupz HS7.out.res (by kernel_rfl) rfl (tup_one ..) ?_))
        refine bodyPost_ret (v := .tuple #[.agg (tupc true p (fst16 f 24 16) (fst16 f 8 16) 0 0), .int .i64 (40 + (m : Int)), .int .i64 0]) (results_row2 Try.results54 _ _ w.heap.size 26 (tupc true p (fst16 f 24 16) (fst16 f 8 16) 0 0) (0, 0) _ rfl (setRow_heap _ w.heap.size _ _ _ _ HS7.out.res) Try.underlying26 rfl (by kernel_rfl)) rfl ?_
        exact ⟨true, p, fst16 f 24 16, fst16 f 8 16, by rw [hRe]; simp, below_setRow HS7.out.below (Nat.le_refl _) _, fun _ => ⟨rfl, by rw [hRe], fun k hk => winS6 f k hk, fun k hk => winD6 f k hk⟩⟩
      · have c3' : (E != 0) = true := by simpa using c3
        have hRe : R = (E, 0, 0) := HRE.out.trans ((win6_2 N0.out N1.out (by rw [← HXX.out]; exact c3)).trans (by rw [← HXX.out]))
        have hne : ¬ E = 0 := c3
        go_wp2_with (first
          | (refine wpList_load_row rfl 26 (.tmp 5) rfl q rfl 26 (tupc true 0 (fun _ => 0) (fun _ => 0) 0 0) (0, 0) _ HS2.out.hd Try.underlying26 rfl (by kernel_rfl) ?_)
          | (refine wpList_store_row rfl 26 (.tmp 2) (.tmp 32) rfl w.heap.size (tupc true 0 (fun _ => 0) (fun _ => 0) 0 0) rfl rfl 26 tupz HS2.out.res (by kernel_rfl) rfl (tup_one ..) ?_))
        refine bodyPost_ret (v := .tuple #[.agg (tupc true 0 (fun _ => 0) (fun _ => 0) 0 0), .int .i64 0, .int .i64 E]) (results_row2 Try.results54 _ _ w.heap.size 26 (tupc true 0 (fun _ => 0) (fun _ => 0) 0 0) (0, 0) _ rfl (setRow_heap _ w.heap.size _ (tupc true 0 (fun _ => 0) (fun _ => 0) 0 0) _ _ HS2.out.res) Try.underlying26 rfl (by kernel_rfl)) rfl ?_
        exact ⟨true, 0, fun _ => 0, fun _ => 0, by first | rfl | (rw [hRe] <;> rfl), below_setRow HS2.out.below (Nat.le_refl _) _, fun h => absurd h (by first | exact hne | (rw [hRe]; exact hne))⟩
    · have hv' : (f 0 / 16 != 6) = true := by simpa using hv
      have hRe : R = (5, 0, 0) := HRE.out.trans (win6_1 N0.out hv)
      have hne : ¬ (5 : Int) = 0 := by decide
      go_wp2_with (first
        | (refine wpList_load_row rfl 26 (.tmp 5) rfl q rfl 26 (tupc true 0 (fun _ => 0) (fun _ => 0) 0 0) (0, 0) _ HS1.out.hd Try.underlying26 rfl (by kernel_rfl) ?_)
        | (refine wpList_store_row rfl 26 (.tmp 2) (.tmp 19) rfl w.heap.size (tupc true 0 (fun _ => 0) (fun _ => 0) 0 0) rfl rfl 26 tupz HS1.out.res (by kernel_rfl) rfl (tup_one ..) ?_))
      refine bodyPost_ret (v := .tuple #[.agg (tupc true 0 (fun _ => 0) (fun _ => 0) 0 0), .int .i64 0, .int .i64 5]) (results_row2 Try.results54 _ _ w.heap.size 26 (tupc true 0 (fun _ => 0) (fun _ => 0) 0 0) (0, 0) _ rfl (setRow_heap _ w.heap.size _ (tupc true 0 (fun _ => 0) (fun _ => 0) 0 0) _ _ HS1.out.res) Try.underlying26 rfl (by kernel_rfl)) rfl ?_
      exact ⟨true, 0, fun _ => 0, fun _ => 0, by first | rfl | (rw [hRe] <;> rfl), below_setRow HS1.out.below (Nat.le_refl _) _, fun h => absurd h (by first | exact hne | (rw [hRe]; exact hne))⟩
end Go.Proofs.Ytlchegibfopglaa
