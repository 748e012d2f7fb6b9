/- Layer 6, the program: the header of a packet within (back4, back6). -/
import Derived.Test.YtfaelihfjmaekaaIb
import Derived.Test.YtfaelihfjmaekaaI6c
import Derived.Laws.CopyRow
namespace Go.Proofs.Ytfaelihfjmaekaa
open Go.RowKit
theorem step_copy_row {P : Program} {w : World} {ops : Array Oper} {op : Oper} {a : Act} {K : Act → World → Prop} {Q : Exit → Act → World → Prop} {E : Prop} (hgd : Region.wanted op (yielded ops a.tmps) = true) (d s : Operand) (t : TypeId)
    (hop : op.op = .call { callee := .builtin .copy, args := #[d, s], argTypes := #[t, t] })
    (e : TypeId) (ht : P.underlying t = some (.slice e)) (hs : (P.info? e).map (·.size) = some 1) {g o dl dc : Nat} {cur : Array Value} {T : TypeId} (hg : w.heap[g]? = some (.cells cur T (0, 0)))
    (hd : a.eval d = .slice (some ⟨g, o, none⟩) dl dc) {B m c' : Nat} {A : Option Addr} {h : Nat → Int} (hx : a.eval s = .slice A m c') (hr : Rd w B A m h) (k : Nat) (hk : k = min m dl) (hk0 : 0 < k) (hfit : o + k ≤ cur.size)
    (new : Array Value) (hnew : (cur.toList.take o ++ (nums k h).map (Value.int .u8) ++ cur.toList.drop (o + k)).toArray = new) (H : K (a.put op.dst (goInt k)) (w.setRow g new)) :
    if Region.wanted op (yielded ops a.tmps) = true then Oper.wp P op a w K Q else E := by
  rw [if_pos hgd]
  rcases hr with hm | ⟨b, off, rfl, hlt, hc⟩
  · omega
  · have hlen : ((nums k h).map (Value.int .u8)).length = k := by simp [nums_len]
    have hrun := run_copy_row (P := P) w t t op.type e g o dl dc ⟨b, off, none⟩ m c' cur T ((nums k h).map (Value.int .u8)) ht hs hg (by rw [hlen]; exact hk) (fun j v hv => by
        have hj : j < k := by
          rcases Nat.lt_or_ge j k with q | q
          · exact q
          · rw [List.getElem?_eq_none (by rw [hlen]; exact q)] at hv; cases hv
        have hplain : (⟨b, off, none⟩ : Addr).add j = ⟨b, off + j, none⟩ := by unfold Addr.add; split <;> simp_all
        rw [hplain, hc j (by omega)]
        simpa [nums, List.getElem?_map, List.getElem?_range hj] using hv) (by rw [hlen]; exact hfit) (fun v hv => by
        simp at hv
        obtain ⟨x, _, rfl⟩ := hv
        rfl)
    rw [hlen, hnew] at hrun
    unfold Oper.wp execOp
    simp only [hop, resolve, invoke, builtin, Sem.run_bind, Sem.run_pure, Result.andThen_ok, List.map_toArray, List.map_cons, List.map_nil, hd, hx, hrun]
    exact H
/-- What the header of a packet within tells: the flow without its ports, where its segment begins, what is wrong. -/
def BkOut (v6 : Bool) (x : Int × Nat × Int) (s d : Nat → Int) (w : World) (e : Ending) (w' : World) : Prop :=
  ∃ v pr ss dd, e = .returned (.tuple #[.agg (tupc v pr ss dd 0 0), .int .i64 (x.2.1 : Int), .int .i64 x.1]) ∧ Below w.heap.size w w' ∧ (x.1 = 0 → v = v6 ∧ pr = x.2.2 ∧ (∀ k, k < 16 → ss k = s k) ∧ (∀ k, k < 16 → dd k = d k))
/-- A result's row, and a flow in a variable. -/
structure TwS (w W : World) (q : Nat) (z cs : Array Value) (t : TypeId) : Prop where
  res : W.heap[w.heap.size]? = some (.cells z t (0, 0))
  hd : W.heap[q]? = some (.cells cs 27 (0, 0))
  below : Below w.heap.size w W
  lt : w.heap.size < q
theorem TwS.row {w W : World} {q : Nat} {z cs : Array Value} {t : TypeId} (h : TwS w W q z cs t) (new : Array Value) : TwS w (W.setRow q new) q z new t :=
  ⟨(setRow_other W q w.heap.size new (Nat.ne_of_lt h.lt)).trans h.res, setRow_heap W q _ new _ _ h.hd, below_setRow h.below (Nat.le_of_lt h.lt) new, h.lt⟩
theorem TwS.set {w W : World} {q : Nat} {z cs : Array Value} {t : TypeId} (h : TwS w W q z cs t) (i : Nat) (v : Value) : TwS w (W.setCell ⟨q, i, none⟩ v) q z (cs.setIfInBounds i v) t :=
  ⟨blk_far h.res (Nat.ne_of_lt h.lt) v, blk_set h.hd i v, h.below.setCell (Nat.le_of_lt h.lt) v, h.lt⟩
theorem TwS.cells {w W : World} {q : Nat} {z cs : Array Value} {t : TypeId} (h : TwS w W q z cs t) (o : Nat) (vs : List Value) : TwS w (W.setCells q o vs) q z (laid cs o vs) t :=
  ⟨(other_setCells (Nat.ne_of_lt h.lt) vs o W).trans h.res, blk_setCells vs o W cs h.hd, below_setCells (Nat.le_of_lt h.lt) vs o W h.below, h.lt⟩
theorem TwS.drew {w W : World} {q : Nat} {z cs : Array Value} {t : TypeId} (h : TwS w W q z cs t) : TwS w W.drew q z cs t := ⟨h.res, h.hd, h.below.drew, h.lt⟩
theorem TwS.step {w W W' : World} {q : Nat} {z cs : Array Value} {t : TypeId} (h : TwS w W q z cs t) (hb : Below W.heap.size W W') : TwS w W' q z cs t :=
  ⟨(hb.block _ (lt_heap h.res)).trans h.res, (hb.block _ (lt_heap h.hd)).trans h.hd, h.below.trans (hb.mono h.below.size), h.lt⟩
theorem TwS.new {w W : World} {z : Array Value} {t : TypeId} (hz : W.heap[w.heap.size]? = some (.cells z t (0, 0))) (hb : Below w.heap.size w W) (zs cs : Array Value) (q : Nat) (hq : q = W.heap.size) : TwS w ((W.alloc (.cells zs 27)).setRow q cs) q z cs t := by
  subst hq
  have hlt := lt_heap hz
  exact ⟨(setRow_other _ W.heap.size w.heap.size cs (Nat.ne_of_lt hlt)).trans (blk_old hz _), setRow_heap _ _ _ cs _ _ (heap_alloc_new W _), below_setRow (hb.alloc hb.size _) hb.size _, hlt⟩
theorem win4_0 {f : Nat → Int} {n : Nat} (h : n < 20) : win4 f n = (4, 0, 0) := by unfold win4; rw [if_pos h]
theorem win4_1 {f : Nat → Int} {n : Nat} (h0 : ¬ n < 20) (h : f 0 / 16 ≠ 4 ∨ 4 * (f 0 % 16).toNat < 20) : win4 f n = (5, 0, 0) := by unfold win4; rw [if_neg h0, if_pos h]
theorem win4_2 {f : Nat → Int} {n : Nat} (h0 : ¬ n < 20) (h1 : ¬ (f 0 / 16 ≠ 4 ∨ 4 * (f 0 % 16).toNat < 20)) (h : n < 4 * (f 0 % 16).toNat) : win4 f n = (4, 0, 0) := by unfold win4; rw [if_neg h0, if_neg h1, if_pos h]
theorem win4_3 {f : Nat → Int} {n : Nat} (h0 : ¬ n < 20) (h1 : ¬ (f 0 / 16 ≠ 4 ∨ 4 * (f 0 % 16).toNat < 20)) (h2 : ¬ n < 4 * (f 0 % 16).toNat) (h : w2 f 6 % 8192 ≠ 0) : win4 f n = (11, 0, 0) := by unfold win4; rw [if_neg h0, if_neg h1, if_neg h2, if_pos h]
theorem win4_4 {f : Nat → Int} {n : Nat} (h0 : ¬ n < 20) (h1 : ¬ (f 0 / 16 ≠ 4 ∨ 4 * (f 0 % 16).toNat < 20)) (h2 : ¬ n < 4 * (f 0 % 16).toNat) (h : w2 f 6 % 8192 = 0) : win4 f n = (0, 4 * (f 0 % 16).toNat, f 9) := by unfold win4; rw [if_neg h0, if_neg h1, if_neg h2, if_neg (fun q => q h)]
theorem win6_0 {f : Nat → Int} {n : Nat} (h : n < 40) : win6 f n = (4, 0, 0) := by unfold win6; rw [if_pos h]
theorem win6_1 {f : Nat → Int} {n : Nat} (h0 : ¬ n < 40) (h : f 0 / 16 ≠ 6) : win6 f n = (5, 0, 0) := by unfold win6; rw [if_neg h0, if_pos h]
theorem win6_2 {f : Nat → Int} {n : Nat} (h0 : ¬ n < 40) (h1 : f 0 / 16 = 6) (h : (wch f n).2.2 ≠ 0) : win6 f n = ((wch f n).2.2, 0, 0) := by unfold win6; rw [if_neg h0, if_neg (fun q => q h1), if_pos h]
theorem win6_3 {f : Nat → Int} {n : Nat} (h0 : ¬ n < 40) (h1 : f 0 / 16 = 6) (h : (wch f n).2.2 = 0) : win6 f n = (0, 40 + (wch f n).2.1, (wch f n).1) := by unfold win6; rw [if_neg h0, if_neg (fun q => q h1), if_neg (fun q => q h)]
theorem winS4 (f : Nat → Int) (k : Nat) : fst16 f 16 4 k = winS false f k := by unfold fst16 winS winA; rw [if_neg (show ¬ (false = true) by decide)]
theorem winD4 (f : Nat → Int) (k : Nat) : fst16 f 12 4 k = winD false f k := by unfold fst16 winD winA; rw [if_neg (show ¬ (false = true) by decide)]
theorem winS6 (f : Nat → Int) (k : Nat) (h : k < 16) : fst16 f 24 16 k = winS true f k := by unfold fst16 winS winA; rw [if_pos rfl, if_pos h]
theorem winD6 (f : Nat → Int) (k : Nat) (h : k < 16) : fst16 f 8 16 k = winD true f k := by unfold fst16 winD winA; rw [if_pos rfl, if_pos h]
set_option maxRecDepth 100000 in
set_option maxHeartbeats 4000000 in
theorem back4_any (A : Option Addr) (n c : Nat) (f : Nat → Int) (hf : Byt f) (hn : n ≤ 140737488355328) (hcap : n ≤ c) (hc' : c ≤ 9223372036854775807) (w : World) (hr : Rd w w.heap.size A n f) :
    Calls Try.prog 15 #[.slice A n c] w (BkOut false (win4 f n) (winS false f) (winD false f) w) := by
  have HR := Lib.hid hr
  have HF := Lib.hid hf
  clear hr hf
  obtain ⟨R, hR⟩ : ∃ R, R = win4 f n := ⟨_, rfl⟩
  rw [← hR]
  have HRE := Lib.hid hR
  clear hR
  have HZ1 : Hid ((w.alloc (.cells tupz 27)).heap[w.heap.size]? = some (.cells tupz 27 (0, 0))) := heap_alloc_new w _
  have HB1 : Hid (Below w.heap.size w (w.alloc (.cells tupz 27))) := below_alloc w _
  go_enter Try.func15, Try.ntmps15
  go_upto_if 9 with fail
  change Code.wp _ _ _ _ (w.alloc (.cells tupz 27))
  generalize w.alloc (.cells tupz 27) = u1 at *
  by_cases c0 : n < 20
  · have c0' : (n : Int) < 20 := by omega
    have hRe : R = (4, 0, 0) := HRE.out.trans (win4_0 c0)
    have hne : ¬ (4 : Int) = 0 := by decide
    go_wp2_with (first
      | (refine wpList_store_row rfl 27 (.tmp 2) (.tmp 10) rfl w.heap.size tupz rfl rfl 27 tupz HZ1.out (by kernel_rfl) rfl tupz_one ?_))
    refine bodyPost_ret (v := .tuple #[.agg tupz, .int .i64 0, .int .i64 4]) (results_row2 Try.results15 _ _ w.heap.size 27 tupz (0, 0) _ rfl (setRow_heap _ w.heap.size _ tupz _ _ HZ1.out) Try.underlying27 rfl (by kernel_rfl)) rfl ?_
    exact ⟨false, 0, fun _ => 0, fun _ => 0, by rw [hRe] <;> rfl, below_setRow HB1.out (Nat.le_refl _) _, fun h => absurd h (by rw [hRe]; first | exact hne | decide)⟩
  · have N0 : Hid (¬ n < 20) := c0
    have c0' : (20 : Int) ≤ (n : Int) := by omega
    have n0 : 0 < n := by omega
    rcases HR.out with h0 | ⟨b, off, rfl, hbb, hcell⟩
    · omega
    have HC := Lib.hid hcell
    clear hcell
    have p0 := HF.out 0
    have x0 := (HB1.out.cell (p := ⟨b, off, none⟩) hbb).trans (HC.out 0 (by omega))
    obtain ⟨H, hH⟩ : ∃ H, H = 4 * (f 0 % 16).toNat := ⟨_, rfl⟩
    have HH := Lib.hid hH
    have ha : bits .and .u8 (f 0) 15 = f 0 % 16 := and_u8 (f 0) 15 16 4 rfl rfl (by omega) (by omega) (by omega)
    have hH' : f 0 % 16 * 4 = (H : Int) := by omega
    have hHb : H ≤ 60 := by omega
    clear hH
    go_upto_region 4 with fail
    clear ha hH'
    by_cases hv : f 0 / 16 = 4
    · have hv' : (f 0 / 16 != 4) = false := by simpa using hv
      by_cases c1 : H < 20
      · have c1' : (H : Int) < 20 := by omega
        have hRe : R = (5, 0, 0) := HRE.out.trans (win4_1 N0.out (.inr (by rw [← HH.out]; exact c1)))
        have hne : ¬ (5 : Int) = 0 := by decide
        go_upto_region 5 with fail
        go_wp2_with (first
          | (refine wpList_store_row rfl 27 (.tmp 2) (.tmp 26) rfl w.heap.size tupz rfl rfl 27 tupz HZ1.out (by kernel_rfl) rfl tupz_one ?_))
        refine bodyPost_ret (v := .tuple #[.agg tupz, .int .i64 0, .int .i64 5]) (results_row2 Try.results15 _ _ w.heap.size 27 tupz (0, 0) _ rfl (setRow_heap _ w.heap.size _ tupz _ _ HZ1.out) Try.underlying27 rfl (by kernel_rfl)) rfl ?_
        exact ⟨false, 0, fun _ => 0, fun _ => 0, by rw [hRe] <;> rfl, below_setRow HB1.out (Nat.le_refl _) _, fun h => absurd h (by rw [hRe]; first | exact hne | decide)⟩
      · have c1' : (20 : Int) ≤ (H : Int) := by omega
        have N1 : Hid (¬ (f 0 / 16 ≠ 4 ∨ 4 * (f 0 % 16).toNat < 20)) := fun q => by
          rcases q with q | q
          · exact q hv
          · rw [← HH.out] at q; exact c1 q
        go_upto_if 30 with fail
        clear x0 hv hv'
        by_cases c2 : n < H
        · have c2' : (n : Int) < (H : Int) := by omega
          have hRe : R = (4, 0, 0) := HRE.out.trans (win4_2 N0.out N1.out (by rw [← HH.out]; exact c2))
          have hne : ¬ (4 : Int) = 0 := by decide
          go_wp2_with (first
            | (refine wpList_store_row rfl 27 (.tmp 2) (.tmp 31) rfl w.heap.size tupz rfl rfl 27 tupz HZ1.out (by kernel_rfl) rfl tupz_one ?_))
          refine bodyPost_ret (v := .tuple #[.agg tupz, .int .i64 0, .int .i64 4]) (results_row2 Try.results15 _ _ w.heap.size 27 tupz (0, 0) _ rfl (setRow_heap _ w.heap.size _ tupz _ _ HZ1.out) Try.underlying27 rfl (by kernel_rfl)) rfl ?_
          exact ⟨false, 0, fun _ => 0, fun _ => 0, by rw [hRe] <;> rfl, below_setRow HB1.out (Nat.le_refl _) _, fun h => absurd h (by rw [hRe]; first | exact hne | decide)⟩
        · have N2 : Hid (¬ n < 4 * (f 0 % 16).toNat) := by rw [← HH.out]; exact c2
          have c2' : (H : Int) ≤ (n : Int) := by omega
          have p6 := HF.out 6
          have p7 := HF.out 7
          have x6 := (HB1.out.cell (p := ⟨b, off + 6, none⟩) hbb).trans (HC.out 6 (by omega))
          have x7 := (HB1.out.cell (p := ⟨b, off + 7, none⟩) hbb).trans (HC.out 7 (by omega))
          have i6 : (6 : Int) < (n : Int) := by omega
          have i7 : (7 : Int) < (n : Int) := by omega
          obtain ⟨G, hG⟩ : ∃ G, G = w2 f 6 := ⟨_, rfl⟩
          have HG := Lib.hid hG
          have hG' : G = f 6 * 256 + f 7 := hG
          have w6 : IntKind.u16.wrap (f 6) = f 6 := by rw [IntKind.wrap_u16]; omega
          have w7 : IntKind.u16.wrap (f 7) = f 7 := by rw [IntKind.wrap_u16]; omega
          have w8 : IntKind.u16.wrap (f 6 * 256) = f 6 * 256 := by rw [IntKind.wrap_u16]; omega
          have hor : bits .or .u16 (f 6 * 256) (f 7) = G := (or_u16 (f 6) (f 7) 256 8 rfl (by omega) (by omega) (by omega) (by omega)).trans hG'.symm
          have han : bits .and .u16 G 8191 = G % 8192 := and_u16 G 8191 8192 13 rfl rfl (by omega) (by omega) (by omega)
          clear hG hG' p6 p7
          go_upto_region 8 with fail
          go_quiet (fail)
          have HZ2 := Lib.hid (show (u1.drewN nq).heap[w.heap.size]? = some (.cells tupz 27 (0, 0)) from HZ1.out)
          have HB2 := Lib.hid (below_drewN HB1.out nq)
          clear HZ1 HB1 x6 x7 i6 i7 w6 w7 w8 hor han
          generalize u1.drewN nq = u2 at *
          by_cases c3 : G % 8192 = 0
          · have c3' : (G % 8192 != 0) = false := by simpa using c3
            have hRe : R = (0, H, f 9) := by rw [HH.out]; exact HRE.out.trans (win4_4 N0.out N1.out N2.out (by rw [← HG.out]; exact c3))
            have x9 := (HB2.out.cell (p := ⟨b, off + 9, none⟩) hbb).trans (HC.out 9 (by omega))
            have i9 : (9 : Int) < (n : Int) := by omega
            have HQ : Hid ((u2.alloc (.cells tupz 27)).heap[u2.heap.size]? = some (.cells tupz 27 (0, 0))) := heap_alloc_new u2 _
            go_upto_region 11 with (first
              | (refine wpList_store_row rfl 27 (.tmp 6) (.tmp 48) rfl u2.heap.size (tupc false (f 9) (fun _ => 0) (fun _ => 0) 0 0) rfl rfl 27 tupz HQ.out (by kernel_rfl) rfl (tup_one ..) ?_))
            change Code.wp _ _ _ _ ((u2.alloc (.cells tupz 27)).setRow u2.heap.size (tupc false (f 9) (fun _ => 0) (fun _ => 0) 0 0))
            obtain ⟨q, hq⟩ : ∃ q, q = u2.heap.size := ⟨_, rfl⟩
            have HS3 := Lib.hid (TwS.new HZ2.out HB2.out tupz (tupc false (f 9) (fun _ => 0) (fun _ => 0) 0 0) q hq)
            rw [← hq]
            clear hq x9 i9 HQ HZ2 HB2 c3 c3'
            generalize (u2.alloc (.cells tupz 27)).setRow q (tupc false (f 9) (fun _ => 0) (fun _ => 0) 0 0) = u3 at *
            obtain ⟨A12, hs12, hr12⟩ := slice_both b off n c 12 16 (by omega) (by omega) hcap hc'
            have hs12' : ∀ W, (Instr.sliceAt 23 (.slice (some ⟨b, off, none⟩) n c) (some (.int .i64 12)) (some (.int .i64 16)) none).run Try.prog W = .ok (.slice A12 4 (c - 12)) W := hs12
            have HR12 : Hid (Rd u3.drew u3.drew.heap.size A12 4 (fun k => f (12 + k))) := hr12 _ _ f ((HR.out.keep HS3.out.below.drew).more HS3.out.below.drew.size)
            clear hs12 hr12
            go_region_held3 (fun _ => True) (trivial)
              (first
              | (refine step_copy_row rfl (.tmp 50) (.tmp 52) _ rfl 5 Try.underlying23 (by kernel_rfl) HS3.out.drew.hd rfl rfl HR12.out 4 (by omega) (by omega) (by show 18 + 4 ≤ 36; omega) (tupc false (f 9) (fun _ => 0) (fst16 f 12 4) 0 0) rfl ?_))
            have HS4 := Lib.hid (HS3.out.drew.row (tupc false (f 9) (fun _ => 0) (fst16 f 12 4) 0 0))
            clear HS3 HR12 hs12'
            generalize u3.drew.setRow q (tupc false (f 9) (fun _ => 0) (fst16 f 12 4) 0 0) = u4 at *
            obtain ⟨A16, hs16, hr16⟩ := slice_both b off n c 16 20 (by omega) (by omega) hcap hc'
            have hs16' : ∀ W, (Instr.sliceAt 23 (.slice (some ⟨b, off, none⟩) n c) (some (.int .i64 16)) (some (.int .i64 20)) none).run Try.prog W = .ok (.slice A16 4 (c - 16)) W := hs16
            have HR16 : Hid (Rd u4.drew u4.drew.heap.size A16 4 (fun k => f (16 + k))) := hr16 _ _ f ((HR.out.keep HS4.out.below.drew).more HS4.out.below.drew.size)
            clear hs16 hr16
            go_upto_region 12 with fail
            go_region_held3 (fun _ => True) (trivial)
              (first
              | (refine step_copy_row rfl (.tmp 55) (.tmp 57) _ rfl 5 Try.underlying23 (by kernel_rfl) HS4.out.drew.hd rfl rfl HR16.out 4 (by omega) (by omega) (by show 2 + 4 ≤ 36; omega) (tupc false (f 9) (fst16 f 16 4) (fst16 f 12 4) 0 0) rfl ?_))
            have HS5 := Lib.hid (HS4.out.drew.row (tupc false (f 9) (fst16 f 16 4) (fst16 f 12 4) 0 0))
            clear HS4 HR16 hs16'
            generalize u4.drew.setRow q (tupc false (f 9) (fst16 f 16 4) (fst16 f 12 4) 0 0) = u5 at *
            go_wp2_with (first
              | (refine wpList_load_row rfl 27 (.tmp 6) rfl q rfl 27 (tupc false (f 9) (fst16 f 16 4) (fst16 f 12 4) 0 0) (0, 0) _ HS5.out.hd Try.underlying27 rfl (by kernel_rfl) ?_)
              | (refine wpList_store_row rfl 27 (.tmp 2) (.tmp 59) rfl w.heap.size (tupc false (f 9) (fst16 f 16 4) (fst16 f 12 4) 0 0) rfl rfl 27 tupz HS5.out.res (by kernel_rfl) rfl (tup_one ..) ?_))
            refine bodyPost_ret (v := .tuple #[.agg (tupc false (f 9) (fst16 f 16 4) (fst16 f 12 4) 0 0), .int .i64 (H : Int), .int .i64 0]) (results_row2 Try.results15 _ _ w.heap.size 27 (tupc false (f 9) (fst16 f 16 4) (fst16 f 12 4) 0 0) (0, 0) _ rfl (setRow_heap _ w.heap.size _ _ _ _ HS5.out.res) Try.underlying27 rfl (by kernel_rfl)) rfl ?_
            exact ⟨false, f 9, fst16 f 16 4, fst16 f 12 4, by rw [hRe], below_setRow HS5.out.below (Nat.le_refl _) _, fun _ => ⟨rfl, by rw [hRe], fun k _ => winS4 f k, fun k _ => winD4 f k⟩⟩
          · have c3' : (G % 8192 != 0) = true := by simpa using c3
            have hRe : R = (11, 0, 0) := HRE.out.trans (win4_3 N0.out N1.out N2.out (by rw [← HG.out]; exact c3))
            have hne : ¬ (11 : Int) = 0 := by decide
            go_wp2_with (first
              | (refine wpList_store_row rfl 27 (.tmp 2) (.tmp 44) rfl w.heap.size tupz rfl rfl 27 tupz HZ2.out (by kernel_rfl) rfl tupz_one ?_))
            refine bodyPost_ret (v := .tuple #[.agg tupz, .int .i64 0, .int .i64 11]) (results_row2 Try.results15 _ _ w.heap.size 27 tupz (0, 0) _ rfl (setRow_heap _ w.heap.size _ tupz _ _ HZ2.out) Try.underlying27 rfl (by kernel_rfl)) rfl ?_
            exact ⟨false, 0, fun _ => 0, fun _ => 0, by rw [hRe] <;> rfl, below_setRow HB2.out (Nat.le_refl _) _, fun h => absurd h (by rw [hRe]; first | exact hne | decide)⟩
    · have hv' : (f 0 / 16 != 4) = true := by simpa using hv
      have hRe : R = (5, 0, 0) := HRE.out.trans (win4_1 N0.out (.inl hv))
      have hne : ¬ (5 : Int) = 0 := by decide
      go_upto_region 5 with fail
      go_wp2_with (first
        | (refine wpList_store_row rfl 27 (.tmp 2) (.tmp 26) rfl w.heap.size tupz rfl rfl 27 tupz HZ1.out (by kernel_rfl) rfl tupz_one ?_))
      refine bodyPost_ret (v := .tuple #[.agg tupz, .int .i64 0, .int .i64 5]) (results_row2 Try.results15 _ _ w.heap.size 27 tupz (0, 0) _ rfl (setRow_heap _ w.heap.size _ tupz _ _ HZ1.out) Try.underlying27 rfl (by kernel_rfl)) rfl ?_
      exact ⟨false, 0, fun _ => 0, fun _ => 0, by rw [hRe] <;> rfl, below_setRow HB1.out (Nat.le_refl _) _, fun h => absurd h (by rw [hRe]; first | exact hne | decide)⟩
set_option maxRecDepth 100000 in
set_option maxHeartbeats 4000000 in
theorem back6_any (A : Option Addr) (n c : Nat) (f : Nat → Int) (hf : Byt f) (hn : n ≤ 140737488355328) (hcap : n ≤ c) (hc' : c ≤ 9223372036854775807) (w : World) (hr : Rd w w.heap.size A n f) :
    Calls Try.prog 16 #[.slice A n c] w (BkOut true (win6 f n) (winS true f) (winD true f) w) := by
  have HR := Lib.hid hr
  have HF := Lib.hid hf
  clear hr hf
  obtain ⟨R, hR⟩ : ∃ R, R = win6 f n := ⟨_, rfl⟩
  rw [← hR]
  have HRE := Lib.hid hR
  clear hR
  have HZ1 : Hid ((w.alloc (.cells tupz 27)).heap[w.heap.size]? = some (.cells tupz 27 (0, 0))) := heap_alloc_new w _
  have HB1 : Hid (Below w.heap.size w (w.alloc (.cells tupz 27))) := below_alloc w _
  go_enter Try.func16, Try.ntmps16
  go_upto_if 11 with fail
  change Code.wp _ _ _ _ (w.alloc (.cells tupz 27))
  generalize w.alloc (.cells tupz 27) = u1 at *
  by_cases c0 : n < 40
  · have c0' : (n : Int) < 40 := by omega
    have hRe : R = (4, 0, 0) := HRE.out.trans (win6_0 c0)
    have hne : ¬ (4 : Int) = 0 := by decide
    go_wp2_with (first
      | (refine wpList_store_row rfl 27 (.tmp 2) (.tmp 12) rfl w.heap.size tupz rfl rfl 27 tupz HZ1.out (by kernel_rfl) rfl tupz_one ?_))
    refine bodyPost_ret (v := .tuple #[.agg tupz, .int .i64 0, .int .i64 4]) (results_row2 Try.results16 _ _ w.heap.size 27 tupz (0, 0) _ rfl (setRow_heap _ w.heap.size _ tupz _ _ HZ1.out) Try.underlying27 rfl (by kernel_rfl)) rfl ?_
    exact ⟨false, 0, fun _ => 0, fun _ => 0, by rw [hRe] <;> rfl, below_setRow HB1.out (Nat.le_refl _) _, fun h => absurd h (by rw [hRe]; first | exact hne | decide)⟩
  · have N0 : Hid (¬ n < 40) := c0
    have c0' : (40 : Int) ≤ (n : Int) := by omega
    have n0 : 0 < n := by omega
    rcases HR.out with h0 | ⟨b, off, rfl, hbb, hcell⟩
    · omega
    have HC := Lib.hid hcell
    clear hcell
    have p0 := HF.out 0
    have x0 := (HB1.out.cell (p := ⟨b, off, none⟩) hbb).trans (HC.out 0 (by omega))
    go_upto_if 17 with fail
    clear x0
    by_cases hv : f 0 / 16 = 6
    · have hv' : (f 0 / 16 != 6) = false := by simpa using hv
      have N1 := Lib.hid hv
      clear hv
      obtain ⟨D, hsD, hrD⟩ := slice_any (some ⟨b, off, none⟩) n c 40 (by omega) hcap hc'
      have hsD' : ∀ W, (Instr.sliceAt 23 (.slice (some ⟨b, off, none⟩) n c) (some (.int .i64 40)) none none).run Try.prog W = .ok (.slice D (n - 40) (c - 40)) W := hsD
      have x6 := Stay.cell ((HB1.out.cell (p := ⟨b, off + 6, none⟩) hbb).trans (HC.out 6 (by omega)))
      have i6 : (6 : Int) < (n : Int) := by omega
      have HRb : Hid (Rd u1 u1.heap.size (some ⟨b, off, none⟩) n f) := (HR.out.keep HB1.out).more HB1.out.size
      obtain ⟨X, hX⟩ : ∃ X, X = chn (fun k => f (40 + k)) (n - 40) 8 (f 6) 0 := ⟨_, rfl⟩
      have HCH : Hid (∀ W : Stay u1, Calls Try.prog 24 #[.int .u8 (f 6), .slice D (n - 40) (c - 40)] W.w fun e w' => e = .returned (.tuple #[.int .u8 X.1, .int .i64 (X.2.1 : Int), .int .i64 X.2.2]) ∧ Below W.w.heap.size W.w w') := Lib.hid fun W => by
        rw [hX]
        exact chain_any (f 6) (HF.out 6) D (n - 40) (c - 40) (fun k => f (40 + k)) (fun k => HF.out _) (by omega) (by omega) (by omega) W.w (hrD _ _ _ (Stay.rd HRb.out W))
      have HXX : Hid (X = wch f n) := Lib.hid (by rw [hX]; rfl)
      obtain ⟨p, m, E⟩ := X
      clear hX hsD hrD
      go_upto_region 5 with fail
      refine wp_region_stay (by kernel_rfl) (by kernel_rfl) ?_
      repeat (go_big_quiet_step (first
        | (go_at_call 24; with_reducible exact Calls.stay _ (HCH.out _))))
      refine wpQuiet_nil ?_
      intro w' hw'
      obtain ⟨W, rfl⟩ := hw'
      have hb2 := W.below
      obtain ⟨u2, hu2⟩ : ∃ u, u = W.w := ⟨_, rfl⟩
      rw [← hu2] at hb2 ⊢
      clear hu2 W
      have HZ2 := Lib.hid ((hb2.block _ (lt_heap HZ1.out)).trans HZ1.out)
      have HB2 : Hid (Below w.heap.size w u2) := HB1.out.trans (hb2.mono HB1.out.size)
      clear hb2 HZ1 HB1 HCH x6 i6 HRb
      go_upto_if 30 with fail
      by_cases c3 : E = 0
      · subst c3
        have hRe : R = (0, 40 + m, p) := HRE.out.trans ((win6_3 N0.out N1.out (by rw [← HXX.out])).trans (by rw [← HXX.out]))
        have hmL : m ≤ n - 40 := (chn_same (f := fun k => f (40 + k)) (g := fun k => f (40 + k)) (N := n - 40) (N' := n - 40) 8 (f 6) 0 p m HXX.out.symm (Nat.zero_le _)).2.2
        have HQ : Hid ((u2.alloc (.cells tupz 27)).heap[u2.heap.size]? = some (.cells tupz 27 (0, 0))) := heap_alloc_new u2 _
        go_upto_region 9 with (first
          | (refine wpList_store_row rfl 27 (.tmp 8) (.tmp 34) rfl u2.heap.size (tupc true p (fun _ => 0) (fun _ => 0) 0 0) rfl rfl 27 tupz HQ.out (by kernel_rfl) rfl (tup_one ..) ?_))
        change Code.wp _ _ _ _ ((u2.alloc (.cells tupz 27)).setRow u2.heap.size (tupc true p (fun _ => 0) (fun _ => 0) 0 0))
        obtain ⟨q, hq⟩ : ∃ q, q = u2.heap.size := ⟨_, rfl⟩
        have HS3 := Lib.hid (TwS.new HZ2.out HB2.out tupz (tupc true p (fun _ => 0) (fun _ => 0) 0 0) q hq)
        rw [← hq]
        clear hq HQ HZ2 HB2
        generalize (u2.alloc (.cells tupz 27)).setRow q (tupc true p (fun _ => 0) (fun _ => 0) 0 0) = u3 at *
        obtain ⟨A8, hs8, hr8⟩ := slice_both b off n c 8 24 (by omega) (by omega) hcap hc'
        have hs8' : ∀ W, (Instr.sliceAt 23 (.slice (some ⟨b, off, none⟩) n c) (some (.int .i64 8)) (some (.int .i64 24)) none).run Try.prog W = .ok (.slice A8 16 (c - 8)) W := hs8
        have HR8 : Hid (Rd u3.drew u3.drew.heap.size A8 16 (fun k => f (8 + k))) := hr8 _ _ f ((HR.out.keep HS3.out.below.drew).more HS3.out.below.drew.size)
        clear hs8 hr8
        go_region_held3 (fun _ => True) (trivial)
          (first
          | (refine step_copy_row rfl (.tmp 36) (.tmp 38) _ rfl 5 Try.underlying23 (by kernel_rfl) HS3.out.drew.hd rfl rfl HR8.out 16 (by omega) (by omega) (by show 18 + 16 ≤ 36; omega) (tupc true p (fun _ => 0) (fst16 f 8 16) 0 0) rfl ?_))
        have HS4 := Lib.hid (HS3.out.drew.row (tupc true p (fun _ => 0) (fst16 f 8 16) 0 0))
        clear HS3 HR8 hs8'
        generalize u3.drew.setRow q (tupc true p (fun _ => 0) (fst16 f 8 16) 0 0) = u4 at *
        obtain ⟨A24, hs24, hr24⟩ := slice_both b off n c 24 40 (by omega) (by omega) hcap hc'
        have hs24' : ∀ W, (Instr.sliceAt 23 (.slice (some ⟨b, off, none⟩) n c) (some (.int .i64 24)) (some (.int .i64 40)) none).run Try.prog W = .ok (.slice A24 16 (c - 24)) W := hs24
        have HR24 : Hid (Rd u4.drew u4.drew.heap.size A24 16 (fun k => f (24 + k))) := hr24 _ _ f ((HR.out.keep HS4.out.below.drew).more HS4.out.below.drew.size)
        clear hs24 hr24
        go_upto_region 10 with fail
        go_region_held3 (fun _ => True) (trivial)
          (first
          | (refine step_copy_row rfl (.tmp 41) (.tmp 43) _ rfl 5 Try.underlying23 (by kernel_rfl) HS4.out.drew.hd rfl rfl HR24.out 16 (by omega) (by omega) (by show 2 + 16 ≤ 36; omega) (tupc true p (fst16 f 24 16) (fst16 f 8 16) 0 0) rfl ?_))
        have HS5 := Lib.hid (HS4.out.drew.row (tupc true p (fst16 f 24 16) (fst16 f 8 16) 0 0))
        clear HS4 HR24 hs24'
        generalize u4.drew.setRow q (tupc true p (fst16 f 24 16) (fst16 f 8 16) 0 0) = u5 at *
        have hw40 : IntKind.i64.wrap (40 + (m : Int)) = 40 + (m : Int) := by rw [IntKind.wrap_i64]; omega
        go_wp2_with (first
          | (refine wpList_load_row rfl 27 (.tmp 8) rfl q rfl 27 (tupc true p (fst16 f 24 16) (fst16 f 8 16) 0 0) (0, 0) _ HS5.out.hd Try.underlying27 rfl (by kernel_rfl) ?_)
          | (refine wpList_store_row rfl 27 (.tmp 2) (.tmp 45) rfl w.heap.size (tupc true p (fst16 f 24 16) (fst16 f 8 16) 0 0) rfl rfl 27 tupz HS5.out.res (by kernel_rfl) rfl (tup_one ..) ?_))
        refine bodyPost_ret (v := .tuple #[.agg (tupc true p (fst16 f 24 16) (fst16 f 8 16) 0 0), .int .i64 (40 + (m : Int)), .int .i64 0]) (results_row2 Try.results16 _ _ w.heap.size 27 (tupc true p (fst16 f 24 16) (fst16 f 8 16) 0 0) (0, 0) _ rfl (setRow_heap _ w.heap.size _ _ _ _ HS5.out.res) Try.underlying27 rfl (by kernel_rfl)) rfl ?_
        exact ⟨true, p, fst16 f 24 16, fst16 f 8 16, by rw [hRe]; simp, below_setRow HS5.out.below (Nat.le_refl _) _, fun _ => ⟨rfl, by rw [hRe], fun k hk => winS6 f k hk, fun k hk => winD6 f k hk⟩⟩
      · have c3' : (E != 0) = true := by simpa using c3
        have hRe : R = (E, 0, 0) := HRE.out.trans ((win6_2 N0.out N1.out (by rw [← HXX.out]; exact c3)).trans (by rw [← HXX.out]))
        have hne : ¬ E = 0 := c3
        go_wp2_with (first
          | (refine wpList_store_row rfl 27 (.tmp 2) (.tmp 31) rfl w.heap.size tupz rfl rfl 27 tupz HZ2.out (by kernel_rfl) rfl tupz_one ?_))
        refine bodyPost_ret (v := .tuple #[.agg tupz, .int .i64 0, .int .i64 E]) (results_row2 Try.results16 _ _ w.heap.size 27 tupz (0, 0) _ rfl (setRow_heap _ w.heap.size _ tupz _ _ HZ2.out) Try.underlying27 rfl (by kernel_rfl)) rfl ?_
        exact ⟨false, 0, fun _ => 0, fun _ => 0, by rw [hRe] <;> rfl, below_setRow HB2.out (Nat.le_refl _) _, fun h => absurd h (by rw [hRe]; first | exact hne | decide)⟩
    · have hv' : (f 0 / 16 != 6) = true := by simpa using hv
      have hRe : R = (5, 0, 0) := HRE.out.trans (win6_1 N0.out hv)
      have hne : ¬ (5 : Int) = 0 := by decide
      go_wp2_with (first
        | (refine wpList_store_row rfl 27 (.tmp 2) (.tmp 18) rfl w.heap.size tupz rfl rfl 27 tupz HZ1.out (by kernel_rfl) rfl tupz_one ?_))
      refine bodyPost_ret (v := .tuple #[.agg tupz, .int .i64 0, .int .i64 5]) (results_row2 Try.results16 _ _ w.heap.size 27 tupz (0, 0) _ rfl (setRow_heap _ w.heap.size _ tupz _ _ HZ1.out) Try.underlying27 rfl (by kernel_rfl)) rfl ?_
      exact ⟨false, 0, fun _ => 0, fun _ => 0, by rw [hRe] <;> rfl, below_setRow HB1.out (Nat.le_refl _) _, fun h => absurd h (by rw [hRe]; first | exact hne | decide)⟩
end Go.Proofs.Ytfaelihfjmaekaa
