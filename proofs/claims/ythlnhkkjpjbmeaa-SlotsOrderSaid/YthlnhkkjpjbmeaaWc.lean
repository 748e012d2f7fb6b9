/- Stage 10: the document's Pop, Remove, Copy, New. -/
import Derived.Test.YthlnhkkjpjbmeaaWb
namespace Go.Proofs.Ythlnhkkjpjbmeaa
set_option maxRecDepth 100000
open Go.RowKit Go.Shelf
theorem slice_one (b off n c : Nat) (h2 : 1 ≤ n) (h3 : n ≤ c) (_ : c ≤ 9223372036854775807) : ∃ D : Option Addr,
    (∀ W, (Instr.sliceAt 43 (.slice (some ⟨b, off, none⟩) n c) (some (.int .i64 1)) none none).run Try.prog W = .ok (.slice D (n - 1) (c - 1)) W) ∧ (0 < n - 1 → D = some ⟨b, off + 1, none⟩) := by
  have i2 : (1 : Int) ≤ (n : Int) := by omega
  have i3 : (n : Int) ≤ (c : Int) := by omega
  have i4 : (0 : Int) ≤ (n : Int) := by omega
  have i5 : (1 : Int) ≤ (c : Int) := by omega
  by_cases h : c = 1
  · obtain rfl : n = 1 := by omega
    subst h
    refine ⟨some ⟨b, off, none⟩, fun W => ?_, fun hq => by omega⟩
    go_simp
  · refine ⟨some ⟨b, off + 1, none⟩, fun W => ?_, fun _ => rfl⟩
    go_simp
section
variable {w : World} {q : Nat} {A : Option Addr} {c : Nat} {rows : Nat → Value} {s : Sl} {G : Nat → Prop}
set_option maxHeartbeats 2000000 in
theorem rpop_any (h : RX w q A c rows s G) (hs : s.Fit) (l : Int) : Calls Try.prog 12 #[.pointer (some ⟨q, 0, none⟩), .int .i64 l] w fun e w' => e = .returned (.tuple (s.popE l)) ∧ ∃ G', RS w' q (s.pop l) G' ∧ Ext2 G G' w w' := by
  have HX := Lib.hid h
  have HS := Lib.hid hs
  have HOF := Lib.hid (rof_any h l)
  cases hq : s.of_ l with
  | nil =>
    have e1 : s.popE l = #[.int .i64 0, .bool false] := by
      unfold Sl.popE
      rw [hq]
    have e2 : s.pop l = s := by
      unfold Sl.pop
      rw [hq]
    rw [e1, e2]
    rw [hq] at HOF
    clear e1 e2 h hs hq
    go_enter Try.func12, Try.ntmps12
    go_wp2_with (first
      | (go_at_call 30
         refine HOF.out.mono ?_
         rintro e u1 ⟨v, rfl, ⟨A1, c1, rfl, _, _, _⟩, hb⟩
         have HB := Lib.hid hb
         simp only [List.length_nil] at *
         clear hb))
    go_ret2
    exact ⟨rfl, G, ⟨A, c, rows, HX.out.step HB.out⟩, .below HB.out⟩
  | cons x t =>
    obtain ⟨l0, l1, l2⟩ := Sl.of_some hq
    obtain ⟨i, rfl⟩ := Int.eq_ofNat_of_zero_le l0
    have l1 : i < s.ls.length := l1
    have l2 : s.at_ i = x :: t := l2
    have e1 : s.popE (i : Int) = #[.int .i64 (x : Int), .bool true] := by
      unfold Sl.popE
      rw [hq]
    have e2 : s.pop (i : Int) = s.put i t := by
      unfold Sl.pop
      rw [hq]
      rfl
    have hlm := Sl.at_length hs.ok i
    rw [l2] at hlm
    have hm := hs.m
    have hn4 := hs.n
    have HIL := Lib.hid l1
    rw [e1, e2]
    rw [hq] at HOF
    obtain ⟨i0, hi0, hz0, hz1, hz2⟩ := info_parts Try.infoIN
    have HI0 := Lib.hid hi0
    have HZ0 := Lib.hid hz0
    have HZ1 := Lib.hid hz1
    have HZ2 := Lib.hid hz2
    obtain ⟨m, hmm⟩ : ∃ m, m = t.length := ⟨_, rfl⟩
    have HMM := Lib.hid hmm
    have hlt : (x :: t).length = m + 1 := by rw [hmm]; rfl
    rw [hlt] at hlm
    clear e1 e2 h hs hq hi0 hz0 hz1 hz2 hmm l0 l1 l2
    go_enter Try.func12, Try.ntmps12
    go_upto_region 2 with (first
      | (go_at_call 30
         refine HOF.out.mono ?_
         rintro e u1 ⟨v, rfl, hv, hb⟩
         have HB := Lib.hid hb
         have HLV := Lib.hid hv
         clear hb hv))
    obtain ⟨A1, c1, rfl, hc1, hc9, hrd⟩ := HLV.out
    rw [hlt] at hc1 hrd ⊢
    rcases hrd with hrd | ⟨b, off, rfl, hgb, hbl, hel⟩
    · omega
    have HGB := Lib.hid hgb
    have HBL := Lib.hid hbl
    have HEL := Lib.hid hel
    obtain ⟨D, hsl, hD⟩ := slice_one b off (m + 1) c1 (by omega) hc1 hc9
    have e9 : m + 1 - 1 = m := by omega
    rw [e9] at hsl hD
    have HX1 := Lib.hid (HX.out.step HB.out)
    have HQW : Hid (q < u1.heap.size) := Lib.hid (lt_heap HX1.out.blk)
    have HO4 : Hid (OwnC (u1.alloc (.cells #[] 3)) u1.heap.size 3 1 (some ⟨u1.heap.size, 0, none⟩) 0 0 (fun _ => .int .u64 0)) := Lib.hid (OwnC.fresh u1 _ _ rfl (Nat.le_refl _) _ _ _)
    have HR4 : Hid (RdC (u1.alloc (.cells #[] 3)) (u1.alloc (.cells #[] 3)).heap.size D (m * 1) (ints t)) := Lib.hid (by
      rw [Nat.mul_one]
      rcases Nat.eq_zero_or_pos m with hz | hz
      · exact .inl hz
      · refine .inr ⟨b, off + 1, hD hz, by simp; omega, fun k hk => ?_⟩
        have := hel (k + 1) (by omega)
        rw [show off + 1 + k = off + (k + 1) by omega]
        rw [(below_alloc u1 (.cells #[] 3)).cell (p := ⟨b, off + (k + 1), none⟩) hbl, this]
        rfl)
    have hz0 : (((m + 1 : Nat) : Int) == 0) = false := by simp; omega
    clear hgb hbl hel HLV hD hlt e9
    go_upto_region 5 with (first
      | (at_builtin
         refine wpList_append_vals rfl (.tmp 15) (.tmp 17) 43 rfl u1.heap.size 3 i0 (.int .i64 0) 1 Try.underlying43 HI0.out HZ0.out HZ1.out rfl (by decide) rfl HO4.out rfl HR4.out (fun _ _ => rfl) (by unfold maxLen; omega) (by rw [HZ2.out]; omega) (alloc_le u1 _) ?_
         intro A5 c5 u5 hown5 hg5 _
         have HO5 : Hid (OwnC u5 u1.heap.size 3 1 A5 m c5 (ints t)) := Lib.hid (by
           rw [Nat.zero_add] at hown5
           exact hown5.same fun k _ => by unfold catV; rw [if_neg (by omega)]; rfl)
         have HB5 : Hid (Below u1.heap.size u1 u5) := Lib.hid ((below_alloc u1 _).grown hg5 (alloc_le u1 _) fun k hk => HO4.out.at_ k hk)
         rw [Nat.zero_add]
         have HL5 : Hid (LRow u5 (fun k => u1.heap.size ≤ k ∧ k < u5.heap.size) (.slice A5 m c5) t) := Lib.hid (by
           have := HO5.out
           rw [HMM.out] at this ⊢
           exact this.lrow fun k h1 h2 => ⟨h1, h2⟩)
         clear hown5 hg5)
      | (go_at_call 28
         refine (rset_any (HX1.out.step HB5.out) hn4 u1.heap.size HB5.out.size HQW.out i HIL.out _ _ HL5.out).mono ?_
         rintro e u8 ⟨rfl, ⟨A8, c8, hx8⟩, hk8⟩
         have HX8 := Lib.hid hx8
         have HK8 := Lib.hid hk8
         clear hx8 hk8))
    have x8 : u8.cell? ⟨b, off, none⟩ = some (.int .i64 (x : Int)) := by
      have h1 := HEL.out 0 (by omega)
      have h2 := HB5.out.cell (p := ⟨b, off + 0, none⟩) HBL.out
      have h3 := HK8.out.cell (p := ⟨b, off + 0, none⟩) (Nat.lt_of_lt_of_le HBL.out HB5.out.size) HGB.out.2
      exact (h3.trans h2).trans h1
    go_wp2_with fail
    go_ret2
    refine ⟨rfl, _, ⟨A8, c8, _, HX8.out⟩, ((Kept.of_below (HB.out.trans (HB5.out.mono HB.out.size)) (fun k => k = q)).trans HK8.out fun _ _ r => r).mono fun j _ e => by subst e; exact HX.out.mem, fun j hj => ?_⟩
    rcases hj with hj | hj
    · exact .inl hj
    · exact .inr ⟨Nat.le_trans HB.out.size hj.1, hj.2⟩
set_option maxHeartbeats 2000000 in
theorem rcopy_any (h : RX w q A c rows s G) : Calls Try.prog 17 #[.pointer (some ⟨q, 0, none⟩)] w fun e w' => ∃ b G', e = .returned (.pointer (some ⟨b, 0, none⟩)) ∧ RS w' b s G' ∧ (∀ k, G' k → (G k ∧ k ≠ q) ∨ (w.heap.size ≤ k ∧ k < w'.heap.size)) ∧ Below w.heap.size w w' := by
  have HX := Lib.hid h
  have x0 : w.cell? ⟨q, 0, none⟩ = some (.slice A s.ls.length c) := blk_cell h.blk 0
  have x1 : w.cell? ⟨q, 1, none⟩ = some (.int .i64 (s.cells : Int)) := blk_cell h.blk 1
  obtain ⟨n, hn⟩ : ∃ n, n = s.ls.length := ⟨_, rfl⟩
  have HN := Lib.hid hn
  rw [← hn] at x0
  clear h hn
  have hbd : ∀ (w : World), (Instr.build 61 #[(0, .slice A n c), (1, .int .i64 (s.cells : Int))]).run Try.prog w = .ok (.agg #[.slice A n c, .int .i64 (s.cells : Int)]) w := fun w => by kernel_rfl
  go_enter Try.func17, Try.ntmps17
  go_upto_region 1 with fail
  go_still_tail 8, (by kernel_rfl)
  repeat still_step
  try refine wpStill_nil ?_
  change wpList _ _ _ _ _ w.drew
  have HX1 := Lib.hid (HX.out.step ((Below.refl _ w).drew))
  have HB1 : Hid (Below w.heap.size w w.drew) := Lib.hid ((Below.refl _ w).drew)
  generalize w.drew = u1 at *
  go_wp2_with fail
  go_ret
  have hb2 := below_alloc u1 (.cells #[.slice A n c, .int .i64 (s.cells : Int)] 61)
  have hX2 := HX1.out.step hb2
  have hz : (u1.alloc (.cells #[.slice A n c, .int .i64 (s.cells : Int)] 61)).heap.size = u1.heap.size + 1 := by simp
  have hq : q < u1.heap.size := lt_heap HX1.out.blk
  have hws := HB1.out.size
  refine ⟨u1.heap.size, fun k => (G k ∧ k ≠ q) ∨ k = u1.heap.size, rfl, ⟨A, c, rows, ?_, hX2.cap, ?_, fun i hi => ?_, .inr rfl, fun k hk => ?_⟩, fun k hk => ?_, HB1.out.trans (hb2.mono HB1.out.size)⟩
  · rw [← HN.out]
    exact heap_alloc_new u1 _
  · exact hX2.out.mono fun k hk => ⟨.inl hk, by have := HX1.out.old k hk.1; omega⟩
  · exact (hX2.each i hi).mono fun k hk => ⟨.inl hk, by have := HX1.out.old k hk.1; omega⟩
  · rcases hk with hk | rfl
    · have := HX1.out.old k hk.1
      omega
    · omega
  · rcases hk with hk | rfl
    · exact .inl hk
    · exact .inr ⟨hws, by omega⟩
end
theorem rnew_any (w : World) (n m : Nat) (h1 : 1 ≤ n) (hn : n ≤ 4096) : Calls Try.prog 8 #[.int .i64 (n : Int), .int .i64 (m : Int)] w fun e w' => ∃ q G, e = .returned (.pointer (some ⟨q, 0, none⟩)) ∧ RS w' q (Sl.new n m) G ∧ (∀ k, G k → w.heap.size ≤ k ∧ k < w'.heap.size) ∧ Below w.heap.size w w' := by
  obtain ⟨i0, hi0, hz0, hz1, hz2⟩ := info_parts Try.infoIS
  have hmk : ∃ w', (Instr.makeSlice 59 (.int .i64 (n : Int)) (.int .i64 (n : Int))).run Try.prog w = .ok (.slice (some ⟨w.heap.size, 0, none⟩) n n) w' ∧ OwnC w' w.heap.size 43 1 (some ⟨w.heap.size, 0, none⟩) n n (fun _ => .slice none 0 0) ∧ w.grownBy w' none := by
    obtain ⟨w', h1, h2, h3⟩ := run_make_full (P := Try.prog) (w := w) w.heap.size 59 43 i0 (.slice none 0 0) 1 Try.underlying59 hi0 hz0 hz1 .i64 .i64 n (by rw [hz2]; omega) (by unfold maxLen; omega) (Nat.le_refl _)
    refine ⟨w', h1, ?_, h3⟩
    unfold OwnC
    have e1 : (madeCells (Value.slice none 0 0).cells (n * 1)).toList = vals (n * 1) (fun _ => .slice none 0 0) := by
      refine vals_eq (by simp [size_madeCells]) fun k hk => ?_
      show (madeCells #[.slice none 0 0] (n * 1)).toList[k]? = _
      simp [madeCells]
      refine ⟨k, List.getElem?_range (by omega), ?_⟩
      rw [Nat.mod_one]
      rfl
    rw [← e1]
    exact h2
  obtain ⟨u1, hm, ho, hg⟩ := hmk
  have HO := Lib.hid ho
  have HB : Hid (Below w.heap.size w u1) := Lib.hid ((Below.refl _ _).grown hg (Nat.le_refl _) fun _ h => nomatch h)
  have hbd : ∀ (w : World) (g : Nat), (Instr.build 61 #[(0, .slice (some ⟨g, 0, none⟩) n n), (1, .int .i64 (m : Int))]).run Try.prog w = .ok (.agg #[.slice (some ⟨g, 0, none⟩) n n, .int .i64 (m : Int)]) w := fun w g => by kernel_rfl
  clear ho hg hi0 hz0 hz1 hz2
  go_enter Try.func8, Try.ntmps8
  go_wp2_with fail
  go_ret
  have hb2 := below_alloc u1 (.cells #[.slice (some ⟨w.heap.size, 0, none⟩) n n, .int .i64 (m : Int)] 61)
  have hz : (u1.alloc (.cells #[.slice (some ⟨w.heap.size, 0, none⟩) n n, .int .i64 (m : Int)] 61)).heap.size = u1.heap.size + 1 := by simp
  have hws := HB.out.size
  have hgl := HO.out.ltA
  have hl : (Sl.new n m).ls.length = n := List.length_replicate
  have ho2 := HO.out.below hb2
  refine ⟨u1.heap.size, fun k => k = u1.heap.size ∨ k = w.heap.size, rfl, ⟨some ⟨w.heap.size, 0, none⟩, n, fun _ => .slice none 0 0, ?_, ?_, ?_, fun i hi => ?_, .inl rfl, fun k hk => ?_⟩, fun k hk => ?_, HB.out.trans (hb2.mono hws)⟩
  · rw [hl]
    exact heap_alloc_new u1 _
  · rw [hl]
    omega
  · rw [hl]
    obtain ⟨g', e, _, hlt, hc, _⟩ := ho2.lies h1
    injection e with e
    injection e with e
    exact .inr ⟨w.heap.size, 0, rfl, ⟨.inr rfl, by omega⟩, by omega, fun k hk => by
      have := hc k (by omega)
      rw [← e] at this
      rw [Nat.zero_add]
      exact this⟩
  · rw [Sl.at_new]
    exact LRow.nil _ _
  · rcases hk with rfl | rfl <;> omega
  · rcases hk with rfl | rfl <;> omega
end Go.Proofs.Ythlnhkkjpjbmeaa
