/- Stage 19: the landed Order. -/
import Derived.Test.YtfchmmojhfjibaaSyh
namespace Go.Proofs.Ytfchmmojhfjibaa
set_option maxRecDepth 100000
open Go.RowKit Go.Shelf
/-- Those that take part, as they stand. -/
def takN (l : List Wt) : Nat → List Nat
  | 0 => []
  | n + 1 => if 0 < (wa l n).w then takN l n ++ [n] else takN l n
theorem takN_mem (l : List Wt) : ∀ n i, i ∈ takN l n ↔ i < n ∧ 0 < (wa l i).w
  | 0, i => by simp [takN]
  | n + 1, i => by
    have ih := takN_mem l n i
    unfold takN
    by_cases h : 0 < (wa l n).w
    · rw [if_pos h, List.mem_append, ih, List.mem_singleton]
      constructor
      · rintro (q | rfl)
        · exact ⟨by omega, q.2⟩
        · exact ⟨by omega, h⟩
      · rintro ⟨q, r⟩
        rcases (show i < n ∨ i = n by omega) with e | e
        · exact .inl ⟨e, r⟩
        · exact .inr e
    · rw [if_neg h, ih]
      constructor
      · rintro ⟨q, r⟩
        exact ⟨by omega, r⟩
      · rintro ⟨q, r⟩
        rcases (show i < n ∨ i = n by omega) with e | rfl
        · exact ⟨e, r⟩
        · exact absurd r h
theorem takN_len (l : List Wt) : ∀ n, (takN l n).length ≤ n
  | 0 => Nat.le_refl _
  | n + 1 => by
    have ih := takN_len l n
    unfold takN
    split
    · rw [List.length_append, List.length_singleton]
      omega
    · omega
theorem takN_lt (l : List Wt) : ∀ n, (takN l n).Pairwise (· < ·)
  | 0 => .nil
  | n + 1 => by
    have ih := takN_lt l n
    unfold takN
    split
    · refine List.pairwise_append.2 ⟨ih, List.pairwise_singleton _ _, fun a ha b hb => ?_⟩
      obtain rfl := List.mem_singleton.1 hb
      exact ((takN_mem l b a).1 ha).1
    · exact ih
theorem takN_more {l : List Wt} {n : Nat} (h : 0 < (wa l n).w) : (takN l (n + 1)).length = (takN l n).length + 1 ∧ ∀ j, oV (takN l (n + 1)) j = catV (takN l n).length (oV (takN l n)) (fun _ => .int .i64 (n : Int)) j ∨ (takN l n).length < j := by
  have e : takN l (n + 1) = takN l n ++ [n] := by show (if _ then _ else _) = _; rw [if_pos h]
  refine ⟨by rw [e, List.length_append]; rfl, fun j => ?_⟩
  rw [e]
  unfold oV catV oa
  by_cases h1 : j < (takN l n).length
  · rw [if_pos h1, List.getElem?_append_left h1]
    exact .inl rfl
  · rcases (show j = (takN l n).length ∨ (takN l n).length < j by omega) with rfl | q
    · rw [if_neg h1, List.getElem?_append_right (Nat.le_refl _), Nat.sub_self]
      exact .inl rfl
    · exact .inr q
theorem takN_srt {l : List Wt} {D : List Nat} (h1 : D.Pairwise (lti l)) (h2 : ∀ x, x ∈ D ↔ x ∈ takN l l.length) : D = ordL l :=
  ordL_is ⟨h1, fun i => (h2 i).trans (takN_mem l l.length i)⟩
set_option maxHeartbeats 2000000 in
theorem porder_any (l : List Wt) (A : Option Addr) (c : Nat) (w : World) (h : Lw w w.heap.size A c l) (h30 : l.length ≤ 30) : Calls Try.prog 11 #[.slice A l.length c] w (OutI (ordL l).length (fun j => (oa (ordL l) j : Int)) w) := by
  have HL := Lib.hid h
  obtain ⟨n, hn⟩ : ∃ n, n = l.length := ⟨_, rfl⟩
  rw [← hn] at h30 ⊢
  have HNN := Lib.hid hn
  obtain ⟨ii, hi0, hz0, hz1, hz2⟩ := info_parts Try.infoIT
  have HI0 := Lib.hid hi0
  have HZ0 := Lib.hid hz0
  have HZ1 := Lib.hid hz1
  have HZ2 := Lib.hid hz2
  clear hn h hi0 hz0 hz1 hz2
  go_enter Try.func11, Try.ntmps11
  go_upto_region 1 with fail
  change Code.wp _ _ _ _ (w.alloc (.cells #[.slice A n c] 22))
  have HBX : Hid ((w.alloc (.cells #[.slice A n c] 22)).heap[w.heap.size]? = some (.cells #[.slice A n c] 22 (0, 0))) := Lib.hid (heap_alloc_new w _)
  have HB0 : Hid (Below w.heap.size w (w.alloc (.cells #[.slice A n c] 22))) := Lib.hid (below_alloc w _)
  have HSZ : Hid ((w.alloc (.cells #[.slice A n c] 22)).heap.size = w.heap.size + 1) := Lib.hid (by simp)
  obtain ⟨b, hb⟩ : ∃ b, b = w.heap.size := ⟨_, rfl⟩
  obtain ⟨w0, hw0⟩ : ∃ w0, w0 = w.alloc (.cells #[.slice A n c] 22) := ⟨_, rfl⟩
  rw [← hb, ← hw0] at HBX
  rw [← hw0] at HB0
  rw [← hb, ← hw0] at HSZ
  rw [← hb, ← hw0]
  have HBE := Lib.hid hb
  clear hb hw0
  have y0 := blk_cell HBX.out 0
  go_wp2_with fail
  clear y0
  go_loopw [3, 4, 5, 8] (fun vs _ _ vi wr => ∃ (i : Nat) (A2 : Option Addr) (c2 : Nat), i ≤ n ∧ vs = .slice A2 (takN l i).length c2 ∧ vi = .int .i64 (i : Int) ∧ OwnC wr w0.heap.size 3 1 A2 (takN l i).length c2 (oV (takN l i)) ∧ Below w0.heap.size w0 wr) (fun _ _ _ vi _ => n - (intOf vi).toNat)
  case atStart => exact ⟨0, none, 0, Nat.zero_le _, rfl, rfl, OwnC.nil_ _ _ _ _ _, Below.refl _ _⟩
  case round =>
    obtain ⟨i, A2, c2, hi, rfl, rfl, ho, hb⟩ := hrel
    have HO := Lib.hid ho
    have HB := Lib.hid hb
    have HOL := Lib.hid (takN_len l i)
    have HMO := Lib.hid (@takN_more l i)
    have HNO : Hid (¬ 0 < (wa l i).w → takN l (i + 1) = takN l i) := Lib.hid fun q => by show (if _ then _ else _) = _; rw [if_neg q]
    obtain ⟨o, ho'⟩ : ∃ o, o = takN l i := ⟨_, rfl⟩
    rw [← ho'] at HO HOL HMO HNO ⊢
    obtain ⟨L, hL⟩ : ∃ L, L = o.length := ⟨_, rfl⟩
    rw [← hL] at HO HOL HMO ⊢
    have HLL := Lib.hid hL
    have HOO := Lib.hid ho'
    have hc2 : c2 ≤ 9223372036854775807 := Nat.le_trans HO.out.cap_le (by unfold maxLen; omega)
    have hLc := HO.out.cap
    have hLn : L ≤ i := HOL.out
    clear ho hb ho' hL
    by_cases hlt : i < n
    · have l1 : (i : Int) < (n : Int) := by omega
      obtain ⟨lb, off, rfl, hbb, hc⟩ := HL.out.at_ (i := i) (by rw [← HNN.out]; exact hlt)
      have i0 : (0 : Int) ≤ (i : Int) := by omega
      have i2 : ((i : Int)).toNat = i := by omega
      have zi : IntKind.i64.wrap ((i : Int) + 1) = (i : Int) + 1 := by rw [IntKind.wrap_i64]; omega
      have hcc := hc i (by rw [← HNN.out]; exact hlt)
      have hbw : lb < w0.heap.size := by have := HSZ.out; have := HBE.out; omega
      have x0 := (HB.out.cell (p := ⟨lb, off + i * 2, none⟩) hbw).trans ((HB0.out.cell (p := ⟨lb, off + i * 2, none⟩) hbb).trans hcc.1)
      have x1 := (HB.out.cell (p := ⟨lb, off + i * 2 + 1, none⟩) hbw).trans ((HB0.out.cell (p := ⟨lb, off + i * 2 + 1, none⟩) hbb).trans hcc.2)
      obtain ⟨S, hS⟩ : ∃ S, S = (wa l i).s := ⟨_, rfl⟩
      obtain ⟨W, hW⟩ : ∃ W, W = (wa l i).w := ⟨_, rfl⟩
      rw [← hS] at x0
      rw [← hW] at x1 HMO HNO
      clear hW hS hcc hc hbb hbw
      go_upto_region 5 with fail
      change Code.wp _ _ _ _ (wr.alloc (.cells #[.string S, .int .i64 W] 34))
      have y1 : (wr.alloc (.cells #[.string S, .int .i64 W] 34)).cell? ⟨wr.heap.size, 1, none⟩ = some (.int .i64 W) := blk_cell (heap_alloc_new wr (.cells #[.string S, .int .i64 W] 34)) 1
      have HO1 := Lib.hid (HO.out.alloc (.cells #[.string S, .int .i64 W] 34))
      have HB1 := Lib.hid (HB.out.alloc HB.out.size (.cells #[.string S, .int .i64 W] 34))
      obtain ⟨q, hq⟩ : ∃ q, q = wr.heap.size := ⟨_, rfl⟩
      rw [← hq] at y1
      rw [← hq]
      clear hq x0 x1 HO HB
      generalize wr.alloc (.cells #[.string S, .int .i64 W] 34) = u at *
      by_cases hw : 0 < W
      · have HMM := Lib.hid (HMO.out hw)
        have HR6 : Hid (RdC (u.alloc (.cells #[.int .i64 (i : Int)] 3)) (u.alloc (.cells #[.int .i64 (i : Int)] 3)).heap.size (some ⟨u.heap.size, 0, none⟩) (1 * 1) (fun _ => .int .i64 (i : Int))) := Lib.hid (.inr ⟨_, 0, rfl, by simp, fun j hj => by
          obtain rfl : j = 0 := by omega
          exact blk_cell (heap_alloc_new u _) 0⟩)
        have HO6 := Lib.hid (HO1.out.alloc (.cells #[.int .i64 (i : Int)] 3))
        have HB6 := Lib.hid (HB1.out.alloc HB1.out.size (.cells #[.int .i64 (i : Int)] 3))
        clear HMO HNO
        go_wp2_with (first
          | (at_builtin
             refine wpList_append_vals rfl (.tmp 16) (.tmp 18) 23 rfl w0.heap.size 3 ii (.int .i64 0) 1 Try.underlying23 HI0.out HZ0.out HZ1.out rfl (by decide) rfl HO6.out rfl HR6.out (fun _ _ => rfl) (by unfold maxLen; omega) (by rw [HZ2.out]; omega) HB6.out.size ?_
             intro A7 c7 u7 hown7 hg7 _
             have HO7 := Lib.hid hown7
             have HB7 : Hid (Below w0.heap.size w0 u7) := Lib.hid (HB6.out.grown hg7 HB6.out.size fun k hk => HO6.out.at_ k hk)
             clear hown7 hg7))
        go_roundw
        case rel =>
          refine ⟨i + 1, A7, c7, by omega, by rw [HMM.out.1], by go_num, ?_, HB7.out⟩
          have h7 := HO7.out
          rw [HMM.out.1]
          exact h7.same fun j hj => by
            rcases HMM.out.2 j with r | r
            · rw [r, Nat.mul_one]
            · omega
        case measure => simp [intOf]; omega
      · have HNN2 := Lib.hid (HNO.out hw)
        clear HMO HNO
        go_wp2_with fail
        go_roundw
        case rel => exact ⟨i + 1, A2, c2, by omega, by rw [HNN2.out, ← HLL.out], by go_num, by rw [HNN2.out, ← HLL.out]; exact HO1.out, HB1.out⟩
        case measure => simp [intOf]; omega
    · obtain rfl : i = n := by omega
      have hon : o = takN l l.length := by rw [HOO.out, HNN.out]
      have HFIN : Hid (∀ (A3 : Option Addr) (u : World) (D : List Nat), D.length = L → D = ordL l → OwnC u w0.heap.size 3 1 A3 L c2 (oV D) → Below w.heap.size w u → OutI (ordL l).length (fun j => (oa (ordL l) j : Int)) w (.returned (.slice A3 L c2)) u) := Lib.hid fun A3 u D h1 h2 h3 h4 => by
        rw [← h2, h1]
        exact OutI.of (w := w) (h3.le HB0.out.size) (fun j _ => rfl) h4 (Nat.le_refl _) (Below.refl _ _)
      have HB2 : Hid (Below w.heap.size w wr) := Lib.hid (HB0.out.trans (HB.out.mono HB0.out.size))
      by_cases h0 : o = []
      · have hL0 : L = 0 := by rw [HLL.out, h0]; rfl
        have HF := Lib.hid (HFIN.out A2 wr o HLL.out.symm (takN_srt (by rw [h0]; exact .nil) fun x => by rw [hon]) HO.out HB2.out)
        subst hL0
        have HP := Lib.hid (pstab_nil A2 c2 24 #[.pointer (some ⟨b, 0, none⟩)] wr)
        clear h0 hon HFIN HOO HLL
        go_wp2_with (first
          | (go_at_call 23
             refine HP.out.mono ?_
             rintro e u ⟨rfl, rfl⟩))
        go_ret
        exact HF.out
      · have hpos : 0 < L := by
          rw [HLL.out]
          exact List.length_pos_iff.2 h0
        obtain ⟨gb, e, hgb, hgl, hcc, _⟩ := HO.out.lies hpos
        subst e
        have hn0 : i ≠ 0 := by have := HOL.out; omega
        obtain ⟨lb, off, rfl, hbb, hc⟩ := HL.out.at_ (i := 0) (by have := HNN.out; omega)
        have hbs := HBE.out
        have hsz := HSZ.out
        have hbx := (HB.out.block b (by omega)).trans HBX.out
        have HP := Lib.hid (osort (l := l) (w := wr) (b := b) (lb := lb) (lo := off) (c := c) (gb := gb) (base := w0.heap.size) (d := c2) (D := o) (by rw [← HNN.out]; exact hbx) (lt_heap hbx) (fun j hj => (HB2.out.cell (p := ⟨lb, off + j * 2, none⟩) hbb).trans (hc j hj).1) (Nat.lt_of_lt_of_le hbb HB2.out.size) (fun x hx => by rw [hon] at hx; exact ((takN_mem l _ x).1 hx).1) (by rw [hon]; exact takN_lt l _) (by rw [← HLL.out]; have := HOL.out; omega) h0 (by rw [← HLL.out]; exact HO.out) (by omega) (by omega) hgl)
        have HF : Hid (∀ e u, SrtQ l wr w0.heap.size gb c2 o e u → e = .returned (.tuple #[]) ∧ OutI (ordL l).length (fun j => (oa (ordL l) j : Int)) w (.returned (.slice (some ⟨gb, 0, none⟩) L c2)) u) := Lib.hid fun e u hq => by
          obtain ⟨rfl, D', h1, h2, h3, h4, h5⟩ := hq
          refine ⟨rfl, HFIN.out _ u D' (h1.trans HLL.out.symm) (takN_srt h2 fun x => by rw [h3, hon]) (by rw [HLL.out]; exact h4) ?_⟩
          exact HB2.out.trans ⟨h5.os, h5.tape, h5.output, h5.size, fun k hk => h5.block k (by omega)⟩
        rw [← HLL.out] at HP
        clear h0 hon HFIN HOO HLL hbx hcc hc hbs hsz hn0
        go_wp2_with (first
          | (go_at_call 23
             refine HP.out.mono ?_
             intro e u hq
             have hf := HF.out e u hq
             obtain ⟨rfl, hf⟩ := hf
             have HQ := Lib.hid hf
             clear hq hf))
        go_ret
        exact HQ.out
end Go.Proofs.Ytfchmmojhfjibaa
