/- Stage 18: the landed Slots and what it tells. -/
import Derived.Test.YtdeghjhlbhpopaaPqy
namespace Go.Proofs.Ytdeghjhlbhpopaa
set_option maxRecDepth 100000
open Go.RowKit Go.Shelf
attribute [local go_sem] Oper.semAt_some
def slT (o k m j : Nat) : List Nat := (List.range j).map (slN o k m)
theorem slT_succ (o k m j : Nat) : slT o k m (j + 1) = slT o k m j ++ [slN o k m j] := by
  unfold slT
  rw [List.range_succ, List.map_append]
  rfl
theorem slT_len (o k m j : Nat) : (slT o k m j).length = j := by
  unfold slT
  rw [List.length_map, List.length_range]
theorem slT_pre (o k m : Nat) {i : Nat} : ∀ {j : Nat}, i ≤ j → slT o k m i <+: slT o k m j
  | 0, h => by
    obtain rfl : i = 0 := by omega
    exact List.prefix_rfl
  | j + 1, h => by
    rcases (show i ≤ j ∨ i = j + 1 by omega) with q | rfl
    · rw [slT_succ]
      exact (slT_pre o k m q).trans (List.prefix_append _ _)
    · exact List.prefix_rfl
theorem pslots_eg : ∀ args w, (callFunc 24 args).run Try.prog w = .ok (.enter 24 args) w := fun _ _ => by kernel_rfl
theorem pslots_any (w : World) (p : Pe) : Calls Try.prog 19 #[.agg #[.int .i64 p.o, .int .i64 p.k, .int .i64 p.m]] w fun e w' => e = .returned (.func (.func 24) #[] #[.pointer (some ⟨w.heap.size, 0, none⟩)]) ∧ w' = w.alloc (.cells #[.int .i64 p.o, .int .i64 p.k, .int .i64 p.m] 23) := by
  go_enter Try.func19, Try.ntmps19
  go_wp2_with fail
  go_ret
  exact ⟨rfl, rfl⟩
set_option maxHeartbeats 2000000 in
theorem pslots_it (w0 : World) (p : Pe) (R : Nat → Prop) (b0 : Nat) (hR : ¬ R b0) (hc : w0.heap[b0]? = some (.cells #[.int .i64 p.o, .int .i64 p.k, .int .i64 p.m] 23 (0, 0))) :
    SeqStopsK Fence.wide 12 Try.prog 24 #[.pointer (some ⟨b0, 0, none⟩)] slEnc (Kept R) (fun xs => xs = p.list) (fun pre => pre <+: p.list) p.list.length w0 := fun l J Jx W hW hJ hJx hY hJ0 => by
  have HYd := Lib.hid hY
  have HJ := Lib.hid hJ
  have HK0 : Hid (Kept R w0 W) := Lib.hid (Kept.of_below hW R)
  have HJ0 : Hid (J [] W) := Lib.hid hJ0
  have HC : Hid (∀ V, Kept R w0 V → V.heap[b0]? = some (.cells #[.int .i64 p.o, .int .i64 p.k, .int .i64 p.m] 23 (0, 0))) := Lib.hid fun V hV => (hV.block b0 (lt_heap hc) hR).trans hc
  have HM := Lib.hid fun W => pemay_any p W
  have hnil : ∀ V : World, (binOp .eql 37 (.func (.yield l) #[] #[]) .nilFunc).run Try.prog V = .ok (.bool false) V := fun _ => by kernel_rfl
  clear hR hc hY hJ hW hJ0 hJx
  cases hm : p.may with
  | false =>
    rw [hm] at HM
    have hl : p.list = [] := by unfold Pe.list; rw [hm]; rfl
    rw [hl]
    clear hl hm HYd
    refine callsIn_of_wp Try.func24 rfl trivial ?_ rfl
    simp only [Try.ntmps24, List.size_toArray, List.length_cons, List.length_nil, Nat.reduceAdd, Nat.reduceSub, Array.replicate_succ, Array.replicate_zero, List.push_toArray, List.append_toArray, List.nil_append, List.cons_append]
    have hx := HC.out W HK0.out
    have x0 := blk_cell hx 0
    have x1 := blk_cell hx 1
    have x2 := blk_cell hx 2
    clear hx
    gi_wp2_with (first
      | (refine ⟨trivial, ?_⟩
         gi_at_call 8
         refine (callsIn_wide.2 (HM.out _)).mono ?_
         rintro e W1 ⟨rfl, hb⟩
         have HJ1 := Lib.hid (HJ.out _ _ _ none HJ0.out (grown_below hb) (fun r e => nomatch e))
         clear hb x0 x1 x2))
    refine ⟨rfl, _, results_none rfl _ _ _, ⟨_, rfl⟩, .inl ?_⟩
    exact ⟨_, rfl, HJ1.out⟩
  | true =>
    rw [hm] at HM
    obtain ⟨o, k, m, hok⟩ := Pe.ok_of hm
    have hz := szP_le hok.sz
    have hl : p.list = slT o k m m := hok.list_
    rw [hl]
    rw [hok.eo, hok.ek, hok.em] at *
    have lo := hok.lo
    have lk := hok.lk
    have lm := hz.2.1
    have HLL : Hid (p.list.length = m) := Lib.hid (by rw [hl]; exact slT_len o k m m)
    have HSU := Lib.hid (slT_succ o k m)
    have HPR := Lib.hid fun i (h : i ≤ m) => slT_pre o k m h
    have H0 : Hid (slN o k m 0 = o) := Lib.hid (by unfold slN; rw [Nat.zero_mul, Nat.add_zero, Nat.mod_eq_of_lt lo])
    have HLT : Hid (∀ j, slN o k m j < m) := Lib.hid fun j => slN_lt (by omega) j
    have HNX : Hid (∀ j, (slN o k m j + k) % m = slN o k m (j + 1)) := Lib.hid fun j => by
      unfold slN
      rw [Nat.add_mul, Nat.one_mul, ← Nat.add_assoc, Nat.mod_add_mod]
    have z7 : ¬ (m : Int) = 0 := by omega
    have z8 : ¬ (m : Int) = -1 := by omega
    clear hl hm hok hz
    refine callsIn_of_wp Try.func24 rfl trivial ?_ rfl
    simp only [Try.ntmps24, List.size_toArray, List.length_cons, List.length_nil, Nat.reduceAdd, Nat.reduceSub, Array.replicate_succ, Array.replicate_zero, List.push_toArray, List.append_toArray, List.nil_append, List.cons_append]
    have hx := HC.out W HK0.out
    have x0 := blk_cell hx 0
    have x1 := blk_cell hx 1
    have x2 := blk_cell hx 2
    clear hx
    gi_wp2_with (first
      | (refine ⟨trivial, ?_⟩
         gi_at_call 8
         refine (callsIn_wide.2 (HM.out _)).mono ?_
         rintro e W1 ⟨rfl, hb⟩
         have HK1 := Lib.hid (HK0.out.step hb)
         have HJ1 := Lib.hid (HJ.out _ _ _ none HJ0.out (grown_below hb) (fun r e => nomatch e))
         have hx := HC.out W1 HK1.out
         have y0 := blk_cell hx 0
         have y1 := blk_cell hx 1
         have y2 := blk_cell hx 2
         clear hb x0 x1 x2 hx))
    clear y0 y1 y2
    gi_loopw [3, 15] (fun s i wr => ∃ j : Nat, j ≤ m ∧ s = .int .i64 (slN o k m j : Int) ∧ i = .int .i64 (j : Int) ∧ J (slT o k m j) wr ∧ Kept R w0 wr) (fun _ i _ => m - (intOf i).toNat)
    case atStart => exact ⟨0, Nat.zero_le _, by rw [H0.out], rfl, HJ1.out, HK1.out⟩
    case round =>
      obtain ⟨j, hj, rfl, rfl, hJs, hkw⟩ := hrel
      have HJs := Lib.hid hJs
      have HKw := Lib.hid hkw
      clear hJs hkw
      have zw : IntKind.i64.wrap ((j : Int) + 1) = (j : Int) + 1 := by rw [IntKind.wrap_i64]; omega
      by_cases hlt : j < m
      · have hlt' : (j : Int) < (m : Int) := by omega
        have HSJ := Lib.hid (HSU.out j)
        have hn := HNX.out j
        have hsl := HLT.out j
        have hsl2 := HLT.out (j + 1)
        obtain ⟨s2, hs2⟩ : ∃ s2, s2 = slN o k m (j + 1) := ⟨_, rfl⟩
        have HS2 := Lib.hid hs2
        rw [← hs2] at hn hsl2
        clear hs2
        obtain ⟨s, hs⟩ : ∃ s, s = slN o k m j := ⟨_, rfl⟩
        rw [← hs] at HSJ hn hsl ⊢
        clear hs
        obtain ⟨y, hy⟩ : ∃ y, y = s + k := ⟨_, rfl⟩
        rw [← hy] at hn
        have z1 : IntKind.i64.wrap ((s : Int) + (k : Int)) = (y : Int) := by rw [IntKind.wrap_i64]; omega
        have z2 : (y : Int).tmod (m : Int) = (s2 : Int) := by rw [Int.tmod_eq_emod_of_nonneg (by omega), ← hn, Int.natCast_emod]
        have z2e : (y : Int) % (m : Int) = (s2 : Int) := by rw [← hn, Int.natCast_emod]
        have z3 : IntKind.i64.wrap (s2 : Int) = (s2 : Int) := by rw [IntKind.wrap_i64]; omega
        obtain ⟨fn, tmps, assign, body, hy2, hR2⟩ := HYd.out (slT o k m j) s wr HJs.out (by rw [HLL.out, slT_len]; exact hlt)
        unfold slEnc at hy2
        have HR2 := Lib.hid hR2
        clear hR2 hy hn hsl hsl2
        gi_wp2
        refine HR2.out.mono ?_
        rintro e W3 (⟨rfl, hJ3, hk3⟩ | ⟨rfl, hJx3⟩)
        · have HK3 := Lib.hid (HKw.out.trans hk3 fun _ _ r => r)
          have HJ3 := Lib.hid hJ3
          have hx := HC.out W3 HK3.out
          have y1 := blk_cell hx 1
          have y2 := blk_cell hx 2
          clear hJ3 hk3 hy2 hx
          gi_wp2
          go_roundw
          case rel => exact ⟨j + 1, by omega, by rw [← HS2.out], by go_num, by rw [HSJ.out]; exact HJ3.out, HK3.out⟩
          case measure => simp [intOf]; omega
        · have HJ3 := Lib.hid hJx3
          clear hJx3 hy2
          gi_wp2
          refine ⟨rfl, _, results_none rfl _ _ _, ⟨_, rfl⟩, .inr ⟨_, ?_, HJ3.out⟩⟩
          rw [← HSJ.out]
          exact HPR.out (j + 1) hlt
      · obtain rfl : j = m := by omega
        gi_wp2
        go_end0
        exact ⟨⟨_, rfl⟩, .inl ⟨_, rfl, HJs.out⟩⟩
end Go.Proofs.Ytdeghjhlbhpopaa
