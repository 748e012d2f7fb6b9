import Derived.Test.YtkmakdhlaenaoaaGm33
/- Stage 11: the document's Again. -/
namespace Go.Proofs.Ytkmakdhlaenaoaa
set_option maxRecDepth 100000
open Go.RowKit Go.Shelf
theorem Kept.low {R : Nat → Prop} {w u u' : World} {bs : Nat} (h : Kept R w u) (hb : Below bs u u') (h0 : w.heap.size ≤ bs) : Kept R w u' :=
  ⟨hb.os.trans h.os, hb.tape.trans h.tape, hb.output.trans h.output, Nat.le_trans h.size hb.size, fun k hk hn => (hb.block k (Nat.lt_of_lt_of_le hk h0)).trans (h.block k hk hn)⟩
/-- What stands while an append onto a row of its own is under way. -/
def AgC (bs : Nat) (u : World) (g : Nat) (cs : Array Value) (D : Option Addr) (m dd : Nat) (f : Nat → Value) (W : World) : Prop :=
  bs ≤ u.heap.size ∧ Below bs u W ∧ W.heap[g]? = some (.cells cs 83 (0, 0)) ∧ OwnC W bs 83 4 D m dd f
theorem AgC.step {bs : Nat} {u : World} {g : Nat} {cs : Array Value} {D : Option Addr} {m dd : Nat} {f : Nat → Value} {W W' : World} (h : AgC bs u g cs D m dd f W) (hb : Below W.heap.size W W') : AgC bs u g cs D m dd f W' :=
  ⟨h.1, h.2.1.trans (hb.mono (Nat.le_trans h.1 h.2.1.size)), box_step h.2.2.1 hb, h.2.2.2.below hb⟩
theorem AgC.app {bs : Nat} {u : World} {g : Nat} {cs : Array Value} {D : Option Addr} {m dd : Nat} {f : Nat → Value} {W W' : World} (h : AgC bs u g cs D m dd f W) (hb : AppR bs 83 4 m W W') (hc : cs.size ≤ 4) : AgC bs u g cs D m dd f W' :=
  ⟨h.1, h.2.1.trans hb.below, (hb.small _ _ _ h.2.2.1 hc).trans h.2.2.1, hb.rows _ _ _ h.2.2.2⟩
theorem rtickc {w : World} {q now : Nat} (x2 : w.cell? ⟨q, 2, none⟩ = some (.int .u64 (now : Int))) (at_ : Nat) (hn : now < 18446744073709551615) : Calls Try.prog 49 #[.pointer (some ⟨q, 0, none⟩), .int .u64 (at_ : Int)] w (ret (.int .u64 (nxn now at_ : Int)) w) := by
  by_cases h1 : at_ ≤ now
  · have b1 : (at_ : Int) ≤ (now : Int) := by omega
    have e : nxn now at_ = now + 1 := if_pos h1
    have z1 : IntKind.u64.wrap ((now : Int) + 1) = (now : Int) + 1 := by rw [IntKind.wrap_u64]; omega
    rw [e]
    go_enter Try.func49, Try.ntmps49
    go_wp2_with fail
    go_ret
    exact ⟨by simp, Below.refl _ _⟩
  · have b1 : ¬ (at_ : Int) ≤ (now : Int) := by omega
    have e : nxn now at_ = at_ := if_neg h1
    rw [e]
    go_enter Try.func49, Try.ntmps49
    go_wp2_with fail
    go_ret
    exact ⟨rfl, Below.refl _ _⟩
section
variable {w : World} {q r : Nat} {B : Option Addr} {d : Nat} {A : Ar} {L : List Tm} {now : Nat} {G : Nat → Prop}
theorem ragain_no (h : DX w q r B d A L now G) (hn : A.has.length ≤ 65536) (hi : Int) (k : Nat) (hl : A.live hi k = false) (at_ : Nat) : Calls Try.prog 26 #[.pointer (some ⟨q, 0, none⟩), .agg #[.int .i64 hi, .int .u64 (k : Int)], .int .u64 (at_ : Int)] w fun e w' => e = .returned (.int .i64 14) ∧ ∃ B' d' G', DX w' q r B' d' A L now G' ∧ Ext G G' w w' := by
  have HLV : Hid (∀ (W : World) (Gw : Nat → Prop), DX W q r B d A L now Gw → Calls Try.prog 46 #[.pointer (some ⟨r, 0, none⟩), .agg #[.int .i64 hi, .int .u64 (k : Int)]] W fun e w' => e = .returned (.bool false) ∧ Below W.heap.size W w') := Lib.hid fun W Gw hx => hx.arq fun Gr ha => by
    have h9 := rlive_any ha hn hi k
    rw [hl] at h9
    exact h9
  clear hl hn
  have HX1 := Lib.hid (h.step (below_alloc w (.cells #[.int .i64 hi, .int .u64 (k : Int)] 46)))
  have HE1 := Lib.hid ((Ext.refl G w).step (below_alloc w (.cells #[.int .i64 hi, .int .u64 (k : Int)] 46)))
  have HR1 : Hid ((w.alloc (.cells #[.int .i64 hi, .int .u64 (k : Int)] 46)).heap[w.heap.size]? = some (.cells #[.int .i64 hi, .int .u64 (k : Int)] 46 (0, 0))) := Lib.hid (heap_alloc_new w _)
  obtain ⟨rb, hrb⟩ : ∃ rb, rb = w.heap.size := ⟨_, rfl⟩
  rw [← hrb] at HR1
  have HNF1 : Hid (¬ G rb) := Lib.hid fun hF => by have := h.old rb hF; omega
  clear h
  go_enter Try.func26, Try.ntmps26
  go_upto_region 1 with fail
  change Code.wp _ _ _ _ (w.alloc (.cells #[.int .i64 hi, .int .u64 (k : Int)] 46))
  rw [← hrb]
  clear hrb
  generalize w.alloc (.cells #[.int .i64 hi, .int .u64 (k : Int)] 46) = u1 at *
  have x0 : u1.cell? ⟨q, 0, none⟩ = some (.pointer (some ⟨r, 0, none⟩)) := blk_cell HX1.out.blk 0
  have y0 : u1.cell? ⟨rb, 0, none⟩ = some (.int .i64 hi) := blk_cell HR1.out 0
  have y1 : u1.cell? ⟨rb, 1, none⟩ = some (.int .u64 (k : Int)) := blk_cell HR1.out 1
  have HQL : Hid (q < u1.heap.size) := Lib.hid (lt_heap HX1.out.blk)
  have HRL : Hid (rb < u1.heap.size) := Lib.hid (lt_heap HR1.out)
  refine wp_region_grow (C := fun W => Below u1.heap.size u1 W) 7 37 [val (.pointer (some ⟨q, 0, none⟩)), val (.pointer (some ⟨q, 0, none⟩)), val (.pointer (some ⟨q, 0, none⟩)), val (.pointer (some ⟨r, 0, none⟩)), val (.agg #[.int .i64 hi, .int .u64 (k : Int)]), val (.bool false), val (.bool true)] (by kernel_rfl) rfl (by kernel_rfl) rfl ⟨stb_val _, stb_val _, stb_val _, stb_val _, stb_val _, stb_val _, stb_val _, trivial⟩ (Below.refl _ _).drew ?_ ?_
  · refine each_cons ?_ ?_
    · intro a W hW hd
      have h0 : a.tmps[0]?.getD undef = .pointer (some ⟨q, 0, none⟩) := slot_eq (hd 0 (by decide))
      exact grows_value _ hW (by simp [execOp, Act.eval, h0]) rfl
    refine each_cons ?_ ?_
    · intro a W hW hd
      have h8 : a.tmps[8]?.getD undef = .pointer (some ⟨q, 0, none⟩) := slot_eq (hd 8 (by decide))
      refine grows_value _ hW (?_ : _ = _) rfl
      clear hd
      go_simp
    refine each_cons ?_ ?_
    · intro a W hW hd
      have h9 : a.tmps[9]?.getD undef = .pointer (some ⟨q, 0, none⟩) := slot_eq (hd 9 (by decide))
      refine grows_value _ hW (?_ : _ = _) rfl
      clear hd
      go_simp
    refine each_cons ?_ ?_
    · intro a W hW hd
      have h10 : a.tmps[10]?.getD undef = .pointer (some ⟨q, 0, none⟩) := slot_eq (hd 10 (by decide))
      have xx : W.cell? ⟨q, 0, none⟩ = some (.pointer (some ⟨r, 0, none⟩)) := (hW.cell (p := ⟨q, 0, none⟩) HQL.out).trans x0
      refine grows_value _ hW (?_ : _ = _) rfl
      clear hd
      go_simp
    refine each_cons ?_ ?_
    · intro a W hW hd
      have h4 : a.tmps[4]?.getD undef = .pointer (some ⟨rb, 0, none⟩) := slot_eq (hd 4 (by decide))
      have xx0 : W.cell? ⟨rb, 0, none⟩ = some (.int .i64 hi) := (hW.cell (p := ⟨rb, 0, none⟩) HRL.out).trans y0
      have xx1 : W.cell? ⟨rb, 1, none⟩ = some (.int .u64 (k : Int)) := (hW.cell (p := ⟨rb, 1, none⟩) HRL.out).trans y1
      refine grows_value _ hW (?_ : _ = _) rfl
      clear hd
      go_simp
    refine each_cons ?_ ?_
    · intro a W hW hd
      have h11 : a.tmps[11]?.getD undef = .pointer (some ⟨r, 0, none⟩) := slot_eq (hd 11 (by decide))
      have h12 : a.tmps[12]?.getD undef = .agg #[.int .i64 hi, .int .u64 (k : Int)] := slot_eq (hd 12 (by decide))
      refine grows_call (fn := 46) (args := #[.pointer (some ⟨r, 0, none⟩), .agg #[.int .i64 hi, .int .u64 (k : Int)]]) (by clear hd; go_simp) ?_
      refine (HLV.out _ _ (HX1.out.keep (Kept.of_below hW fun _ => False) fun _ _ q => q)).mono ?_
      rintro e W' ⟨rfl, hb⟩
      exact ⟨_, rfl, rfl, hb, hW.trans (hb.mono hW.size)⟩
    refine each_cons ?_ ?_
    · intro a W hW hd
      have h13 : a.tmps[13]?.getD undef = .bool false := slot_eq (hd 13 (by decide))
      refine grows_value _ hW (?_ : _ = _) rfl
      clear hd
      go_simp
    exact each_nil
  · refine behind_val rfl ?_
    refine behind_val rfl ?_
    refine behind_val rfl ?_
    refine behind_val rfl ?_
    refine behind_val rfl ?_
    refine behind_val rfl ?_
    refine behind_val rfl ?_
    refine behind_nil fun u2 hC2 hF2 => ?_
    have HX2 := Lib.hid (HX1.out.keep (Kept.of_below hC2 fun _ => False) fun _ _ q => q)
    have HE2 := Lib.hid (HE1.out.step hC2)
    have HR2 := Lib.hid (box_step HR1.out hC2)
    clear hC2 hF2 x0 y0 y1 HX1 HE1 HR1
    simp only [Act.put, List.setIfInBounds_toArray, List.set_cons_succ, List.set_cons_zero, List.drop_succ_cons, List.drop_zero]
    go_wp2_with fail
    go_ret
    exact ⟨rfl, _, _, _, HX2.out, HE2.out⟩
theorem ragain_over (h : DX w q r B d A L now G) (hn : A.has.length ≤ 65536) (hi : Int) (k : Nat) (hl : A.live hi k = true) (at_ : Nat) (hat : at_ < 18446744073709551616) (ho : ovr now at_ = true) : Calls Try.prog 26 #[.pointer (some ⟨q, 0, none⟩), .agg #[.int .i64 hi, .int .u64 (k : Int)], .int .u64 (at_ : Int)] w fun e w' => e = .returned (.int .i64 15) ∧ ∃ B' d' G', DX w' q r B' d' A L now G' ∧ Ext G G' w w' := by
  have HO := Lib.hid ho
  clear ho
  have HLV : Hid (∀ (W : World) (Gw : Nat → Prop), DX W q r B d A L now Gw → Calls Try.prog 46 #[.pointer (some ⟨r, 0, none⟩), .agg #[.int .i64 hi, .int .u64 (k : Int)]] W fun e w' => e = .returned (.bool true) ∧ Below W.heap.size W w') := Lib.hid fun W Gw hx => hx.arq fun Gr ha => by
    have h9 := rlive_any ha hn hi k
    rw [hl] at h9
    exact h9
  clear hl hn
  have HX1 := Lib.hid (h.step (below_alloc w (.cells #[.int .i64 hi, .int .u64 (k : Int)] 46)))
  have HE1 := Lib.hid ((Ext.refl G w).step (below_alloc w (.cells #[.int .i64 hi, .int .u64 (k : Int)] 46)))
  have HR1 : Hid ((w.alloc (.cells #[.int .i64 hi, .int .u64 (k : Int)] 46)).heap[w.heap.size]? = some (.cells #[.int .i64 hi, .int .u64 (k : Int)] 46 (0, 0))) := Lib.hid (heap_alloc_new w _)
  obtain ⟨rb, hrb⟩ : ∃ rb, rb = w.heap.size := ⟨_, rfl⟩
  rw [← hrb] at HR1
  have HNF1 : Hid (¬ G rb) := Lib.hid fun hF => by have := h.old rb hF; omega
  clear h
  go_enter Try.func26, Try.ntmps26
  go_upto_region 1 with fail
  change Code.wp _ _ _ _ (w.alloc (.cells #[.int .i64 hi, .int .u64 (k : Int)] 46))
  rw [← hrb]
  clear hrb
  generalize w.alloc (.cells #[.int .i64 hi, .int .u64 (k : Int)] 46) = u1 at *
  have x0 : u1.cell? ⟨q, 0, none⟩ = some (.pointer (some ⟨r, 0, none⟩)) := blk_cell HX1.out.blk 0
  have y0 : u1.cell? ⟨rb, 0, none⟩ = some (.int .i64 hi) := blk_cell HR1.out 0
  have y1 : u1.cell? ⟨rb, 1, none⟩ = some (.int .u64 (k : Int)) := blk_cell HR1.out 1
  have HQL : Hid (q < u1.heap.size) := Lib.hid (lt_heap HX1.out.blk)
  have HRL : Hid (rb < u1.heap.size) := Lib.hid (lt_heap HR1.out)
  refine wp_region_grow (C := fun W => Below u1.heap.size u1 W) 7 37 [val (.pointer (some ⟨q, 0, none⟩)), val (.pointer (some ⟨q, 0, none⟩)), val (.pointer (some ⟨q, 0, none⟩)), val (.pointer (some ⟨r, 0, none⟩)), val (.agg #[.int .i64 hi, .int .u64 (k : Int)]), val (.bool true), val (.bool false)] (by kernel_rfl) rfl (by kernel_rfl) rfl ⟨stb_val _, stb_val _, stb_val _, stb_val _, stb_val _, stb_val _, stb_val _, trivial⟩ (Below.refl _ _).drew ?_ ?_
  · refine each_cons ?_ ?_
    · intro a W hW hd
      have h0 : a.tmps[0]?.getD undef = .pointer (some ⟨q, 0, none⟩) := slot_eq (hd 0 (by decide))
      exact grows_value _ hW (by simp [execOp, Act.eval, h0]) rfl
    refine each_cons ?_ ?_
    · intro a W hW hd
      have h8 : a.tmps[8]?.getD undef = .pointer (some ⟨q, 0, none⟩) := slot_eq (hd 8 (by decide))
      refine grows_value _ hW (?_ : _ = _) rfl
      clear hd
      go_simp
    refine each_cons ?_ ?_
    · intro a W hW hd
      have h9 : a.tmps[9]?.getD undef = .pointer (some ⟨q, 0, none⟩) := slot_eq (hd 9 (by decide))
      refine grows_value _ hW (?_ : _ = _) rfl
      clear hd
      go_simp
    refine each_cons ?_ ?_
    · intro a W hW hd
      have h10 : a.tmps[10]?.getD undef = .pointer (some ⟨q, 0, none⟩) := slot_eq (hd 10 (by decide))
      have xx : W.cell? ⟨q, 0, none⟩ = some (.pointer (some ⟨r, 0, none⟩)) := (hW.cell (p := ⟨q, 0, none⟩) HQL.out).trans x0
      refine grows_value _ hW (?_ : _ = _) rfl
      clear hd
      go_simp
    refine each_cons ?_ ?_
    · intro a W hW hd
      have h4 : a.tmps[4]?.getD undef = .pointer (some ⟨rb, 0, none⟩) := slot_eq (hd 4 (by decide))
      have xx0 : W.cell? ⟨rb, 0, none⟩ = some (.int .i64 hi) := (hW.cell (p := ⟨rb, 0, none⟩) HRL.out).trans y0
      have xx1 : W.cell? ⟨rb, 1, none⟩ = some (.int .u64 (k : Int)) := (hW.cell (p := ⟨rb, 1, none⟩) HRL.out).trans y1
      refine grows_value _ hW (?_ : _ = _) rfl
      clear hd
      go_simp
    refine each_cons ?_ ?_
    · intro a W hW hd
      have h11 : a.tmps[11]?.getD undef = .pointer (some ⟨r, 0, none⟩) := slot_eq (hd 11 (by decide))
      have h12 : a.tmps[12]?.getD undef = .agg #[.int .i64 hi, .int .u64 (k : Int)] := slot_eq (hd 12 (by decide))
      refine grows_call (fn := 46) (args := #[.pointer (some ⟨r, 0, none⟩), .agg #[.int .i64 hi, .int .u64 (k : Int)]]) (by clear hd; go_simp) ?_
      refine (HLV.out _ _ (HX1.out.keep (Kept.of_below hW fun _ => False) fun _ _ q => q)).mono ?_
      rintro e W' ⟨rfl, hb⟩
      exact ⟨_, rfl, rfl, hb, hW.trans (hb.mono hW.size)⟩
    refine each_cons ?_ ?_
    · intro a W hW hd
      have h13 : a.tmps[13]?.getD undef = .bool true := slot_eq (hd 13 (by decide))
      refine grows_value _ hW (?_ : _ = _) rfl
      clear hd
      go_simp
    exact each_nil
  · refine behind_val rfl ?_
    refine behind_val rfl ?_
    refine behind_val rfl ?_
    refine behind_val rfl ?_
    refine behind_val rfl ?_
    refine behind_val rfl ?_
    refine behind_val rfl ?_
    refine behind_nil fun u2 hC2 hF2 => ?_
    have HX2 := Lib.hid (HX1.out.keep (Kept.of_below hC2 fun _ => False) fun _ _ q => q)
    have HE2 := Lib.hid (HE1.out.step hC2)
    have HR2 := Lib.hid (box_step HR1.out hC2)
    clear hC2 hF2 x0 y0 y1 HX1 HE1 HR1
    simp only [Act.put, List.setIfInBounds_toArray, List.set_cons_succ, List.set_cons_zero, List.drop_succ_cons, List.drop_zero]
    have HOV := Lib.hid (rover HX2.out at_ hat)
    go_wp2_with (first
      | (go_at_call 47
         rw [HO.out] at HOV
         refine HOV.out.mono ?_
         rintro e u3 ⟨rfl, hbb⟩
         have HX3 := Lib.hid (HX2.out.step hbb)
         have HE3 := Lib.hid (HE2.out.step hbb)
         have HR3 := Lib.hid (box_step HR2.out hbb)
         clear hbb HX2 HE2 HR2 HOV))
    go_ret
    exact ⟨rfl, _, _, _, HX3.out, HE3.out⟩
set_option maxHeartbeats 2000000 in
theorem ragain_ok (h : DX w q r B d A L now G) (hn : A.has.length ≤ 65536) (hL : L.length ≤ 65536) (hnow : now < 18446744073709551615) (i k : Nat) (hl : A.live (i : Int) k = true) (at_ : Nat) (hat : at_ < 18446744073709551616) (ho : ovr now at_ = false) : Calls Try.prog 26 #[.pointer (some ⟨q, 0, none⟩), .agg #[.int .i64 (i : Int), .int .u64 (k : Int)], .int .u64 (at_ : Int)] w fun e w' => e = .returned (.int .i64 0) ∧ ∃ B' d' G', DX w' q r B' d' A (Wh.drop L (i : Int) k ++ [⟨i, k, nxn now at_, (lastIs L (i : Int) k).what⟩]) now G' ∧ Ext G G' w w' := by
  have HO := Lib.hid ho
  have HNW := Lib.hid hnow
  have HLL := Lib.hid hL
  clear ho hnow hL
  have HLV : Hid (∀ (W : World) (Gw : Nat → Prop), DX W q r B d A L now Gw → Calls Try.prog 46 #[.pointer (some ⟨r, 0, none⟩), .agg #[.int .i64 (i : Int), .int .u64 (k : Int)]] W fun e w' => e = .returned (.bool true) ∧ Below W.heap.size W w') := Lib.hid fun W Gw hx => hx.arq fun Gr ha => by
    have h9 := rlive_any ha hn (i : Int) k
    rw [hl] at h9
    exact h9
  clear hl hn
  have HX1 := Lib.hid (h.step (below_alloc w (.cells #[.int .i64 (i : Int), .int .u64 (k : Int)] 46)))
  have HE1 := Lib.hid ((Ext.refl G w).step (below_alloc w (.cells #[.int .i64 (i : Int), .int .u64 (k : Int)] 46)))
  have HR1 : Hid ((w.alloc (.cells #[.int .i64 (i : Int), .int .u64 (k : Int)] 46)).heap[w.heap.size]? = some (.cells #[.int .i64 (i : Int), .int .u64 (k : Int)] 46 (0, 0))) := Lib.hid (heap_alloc_new w _)
  obtain ⟨rb, hrb⟩ : ∃ rb, rb = w.heap.size := ⟨_, rfl⟩
  rw [← hrb] at HR1
  have HNF1 : Hid (¬ G rb) := Lib.hid fun hF => by have := h.old rb hF; omega
  clear h
  go_enter Try.func26, Try.ntmps26
  go_upto_region 1 with fail
  change Code.wp _ _ _ _ (w.alloc (.cells #[.int .i64 (i : Int), .int .u64 (k : Int)] 46))
  rw [← hrb]
  clear hrb
  generalize w.alloc (.cells #[.int .i64 (i : Int), .int .u64 (k : Int)] 46) = u1 at *
  have x0 : u1.cell? ⟨q, 0, none⟩ = some (.pointer (some ⟨r, 0, none⟩)) := blk_cell HX1.out.blk 0
  have y0 : u1.cell? ⟨rb, 0, none⟩ = some (.int .i64 (i : Int)) := blk_cell HR1.out 0
  have y1 : u1.cell? ⟨rb, 1, none⟩ = some (.int .u64 (k : Int)) := blk_cell HR1.out 1
  have HQL : Hid (q < u1.heap.size) := Lib.hid (lt_heap HX1.out.blk)
  have HRL : Hid (rb < u1.heap.size) := Lib.hid (lt_heap HR1.out)
  refine wp_region_grow (C := fun W => Below u1.heap.size u1 W) 7 37 [val (.pointer (some ⟨q, 0, none⟩)), val (.pointer (some ⟨q, 0, none⟩)), val (.pointer (some ⟨q, 0, none⟩)), val (.pointer (some ⟨r, 0, none⟩)), val (.agg #[.int .i64 (i : Int), .int .u64 (k : Int)]), val (.bool true), val (.bool false)] (by kernel_rfl) rfl (by kernel_rfl) rfl ⟨stb_val _, stb_val _, stb_val _, stb_val _, stb_val _, stb_val _, stb_val _, trivial⟩ (Below.refl _ _).drew ?_ ?_
  · refine each_cons ?_ ?_
    · intro a W hW hd
      have h0 : a.tmps[0]?.getD undef = .pointer (some ⟨q, 0, none⟩) := slot_eq (hd 0 (by decide))
      exact grows_value _ hW (by simp [execOp, Act.eval, h0]) rfl
    refine each_cons ?_ ?_
    · intro a W hW hd
      have h8 : a.tmps[8]?.getD undef = .pointer (some ⟨q, 0, none⟩) := slot_eq (hd 8 (by decide))
      refine grows_value _ hW (?_ : _ = _) rfl
      clear hd
      go_simp
    refine each_cons ?_ ?_
    · intro a W hW hd
      have h9 : a.tmps[9]?.getD undef = .pointer (some ⟨q, 0, none⟩) := slot_eq (hd 9 (by decide))
      refine grows_value _ hW (?_ : _ = _) rfl
      clear hd
      go_simp
    refine each_cons ?_ ?_
    · intro a W hW hd
      have h10 : a.tmps[10]?.getD undef = .pointer (some ⟨q, 0, none⟩) := slot_eq (hd 10 (by decide))
      have xx : W.cell? ⟨q, 0, none⟩ = some (.pointer (some ⟨r, 0, none⟩)) := (hW.cell (p := ⟨q, 0, none⟩) HQL.out).trans x0
      refine grows_value _ hW (?_ : _ = _) rfl
      clear hd
      go_simp
    refine each_cons ?_ ?_
    · intro a W hW hd
      have h4 : a.tmps[4]?.getD undef = .pointer (some ⟨rb, 0, none⟩) := slot_eq (hd 4 (by decide))
      have xx0 : W.cell? ⟨rb, 0, none⟩ = some (.int .i64 (i : Int)) := (hW.cell (p := ⟨rb, 0, none⟩) HRL.out).trans y0
      have xx1 : W.cell? ⟨rb, 1, none⟩ = some (.int .u64 (k : Int)) := (hW.cell (p := ⟨rb, 1, none⟩) HRL.out).trans y1
      refine grows_value _ hW (?_ : _ = _) rfl
      clear hd
      go_simp
    refine each_cons ?_ ?_
    · intro a W hW hd
      have h11 : a.tmps[11]?.getD undef = .pointer (some ⟨r, 0, none⟩) := slot_eq (hd 11 (by decide))
      have h12 : a.tmps[12]?.getD undef = .agg #[.int .i64 (i : Int), .int .u64 (k : Int)] := slot_eq (hd 12 (by decide))
      refine grows_call (fn := 46) (args := #[.pointer (some ⟨r, 0, none⟩), .agg #[.int .i64 (i : Int), .int .u64 (k : Int)]]) (by clear hd; go_simp) ?_
      refine (HLV.out _ _ (HX1.out.keep (Kept.of_below hW fun _ => False) fun _ _ q => q)).mono ?_
      rintro e W' ⟨rfl, hb⟩
      exact ⟨_, rfl, rfl, hb, hW.trans (hb.mono hW.size)⟩
    refine each_cons ?_ ?_
    · intro a W hW hd
      have h13 : a.tmps[13]?.getD undef = .bool true := slot_eq (hd 13 (by decide))
      refine grows_value _ hW (?_ : _ = _) rfl
      clear hd
      go_simp
    exact each_nil
  · refine behind_val rfl ?_
    refine behind_val rfl ?_
    refine behind_val rfl ?_
    refine behind_val rfl ?_
    refine behind_val rfl ?_
    refine behind_val rfl ?_
    refine behind_val rfl ?_
    refine behind_nil fun u2 hC2 hF2 => ?_
    have HX2 := Lib.hid (HX1.out.keep (Kept.of_below hC2 fun _ => False) fun _ _ q => q)
    have HE2 := Lib.hid (HE1.out.step hC2)
    have HR2 := Lib.hid (box_step HR1.out hC2)
    clear hC2 hF2 x0 y0 y1 HX1 HE1 HR1
    simp only [Act.put, List.setIfInBounds_toArray, List.set_cons_succ, List.set_cons_zero, List.drop_succ_cons, List.drop_zero]
    have HOV := Lib.hid (rover HX2.out at_ hat)
    clear hat
    go_upto_region 5 with (first
      | (go_at_call 47
         rw [HO.out] at HOV
         refine HOV.out.mono ?_
         rintro e u3 ⟨rfl, hbb⟩
         have HX3 := Lib.hid (HX2.out.step hbb)
         have HE3 := Lib.hid (HE2.out.step hbb)
         have HR3 := Lib.hid (box_step HR2.out hbb)
         clear hbb HX2 HE2 HR2 HOV))
    have y0 : u3.cell? ⟨rb, 0, none⟩ = some (.int .i64 (i : Int)) := blk_cell HR3.out 0
    have y1 : u3.cell? ⟨rb, 1, none⟩ = some (.int .u64 (k : Int)) := blk_cell HR3.out 1
    have HDR := Lib.hid (rdrop HX3.out HLL.out (i : Int) k)
    have HRQ : Hid (¬ rb = q) := Lib.hid fun e => by
      have h1 := HX3.out.blk
      rw [← e, HR3.out] at h1
      injection h1 with h1
      injection h1 with h1 h2
      cases h2
    obtain ⟨L2, hL2⟩ : ∃ L2, L2 = Wh.drop L (i : Int) k := ⟨_, rfl⟩
    obtain ⟨tl, htl⟩ : ∃ tl, tl = lastIs L (i : Int) k := ⟨_, rfl⟩
    obtain ⟨m, hm⟩ : ∃ m, m = L2.length := ⟨_, rfl⟩
    have HL2 := Lib.hid hL2
    have HTL := Lib.hid htl
    have HM := Lib.hid hm
    have HML : Hid (m ≤ 65536) := Lib.hid (by rw [hm, hL2]; exact Nat.le_trans (drop_le L (i : Int) k) HLL.out)
    obtain ⟨bs, hbs⟩ : ∃ bs, bs = u3.heap.size := ⟨_, rfl⟩
    have HBS := Lib.hid hbs
    rw [← hL2, ← htl, ← hbs, ← hm] at HDR
    have HQB : Hid (q < bs) := Lib.hid (by rw [hbs]; exact lt_heap HX3.out.blk)
    have HRB : Hid (rb < bs) := Lib.hid (by rw [hbs]; exact lt_heap HR3.out)
    clear hL2 htl hm hbs
    have HEL : Hid (tmv tl = #[.int .i64 (tl.i : Int), .int .u64 (tl.k : Int), .int .u64 (tl.at_ : Int), .int .u64 (tl.what : Int)]) := Lib.hid rfl
    go_upto_region 6 with (first
      | (go_at_call 48
         refine HDR.out.mono ?_
         rintro e u4 ⟨he, D, dd, hdz, hq4, ho4, hk4⟩
         rw [HEL.out] at he
         have HDZ := Lib.hid hdz
         have HQ4 := Lib.hid hq4
         have HO4 := Lib.hid ho4
         have HK4 := Lib.hid hk4
         have HR4 := Lib.hid ((hk4.block rb (lt_heap HR3.out) HRQ.out).trans HR3.out)
         subst he
         clear hdz hq4 ho4 hk4 HR3 HDR))
    have hbl := below_alloc u4 (.cells #[.int .i64 (tl.i : Int), .int .u64 (tl.k : Int), .int .u64 (tl.at_ : Int), .int .u64 (tl.what : Int)] 83)
    have hbz : bs ≤ u4.heap.size := by rw [HBS.out]; exact HK4.out.size
    have HQ5 := Lib.hid (box_step HQ4.out hbl)
    have HOD := Lib.hid (HO4.out.below hbl)
    have HK5 := Lib.hid (HK4.out.step hbl)
    have HR5 := Lib.hid (box_step HR4.out hbl)
    have H7R : Hid ((u4.alloc (.cells #[.int .i64 (tl.i : Int), .int .u64 (tl.k : Int), .int .u64 (tl.at_ : Int), .int .u64 (tl.what : Int)] 83)).heap[u4.heap.size]? = some (.cells #[.int .i64 (tl.i : Int), .int .u64 (tl.k : Int), .int .u64 (tl.at_ : Int), .int .u64 (tl.what : Int)] 83 (0, 0))) := Lib.hid (heap_alloc_new u4 _)
    have HBZ : Hid (bs ≤ (u4.alloc (.cells #[.int .i64 (tl.i : Int), .int .u64 (tl.k : Int), .int .u64 (tl.at_ : Int), .int .u64 (tl.what : Int)] 83)).heap.size) := Lib.hid (Nat.le_trans hbz hbl.size)
    clear hbl hbz HQ4 HO4 HK4 HR4 y0 y1
    change Code.wp _ _ _ _ (u4.alloc (.cells #[.int .i64 (tl.i : Int), .int .u64 (tl.k : Int), .int .u64 (tl.at_ : Int), .int .u64 (tl.what : Int)] 83))
    generalize u4.heap.size = h7 at *
    generalize u4.alloc (.cells #[.int .i64 (tl.i : Int), .int .u64 (tl.k : Int), .int .u64 (tl.at_ : Int), .int .u64 (tl.what : Int)] 83) = u5 at *
    obtain ⟨i0, hi0, hz0, hz1, hz2⟩ := info_parts Try.infoTT
    have HI0 := Lib.hid hi0
    have HZ0 := Lib.hid hz0
    have HZ1 := Lib.hid hz1
    have HZ2 := Lib.hid hz2
    clear hi0 hz0 hz1 hz2
    have x1 : u5.cell? ⟨q, 1, none⟩ = some (.slice D m dd) := blk_cell HQ5.out 1
    have x2 : Hid (u5.cell? ⟨q, 2, none⟩ = some (.int .u64 (now : Int))) := Lib.hid (blk_cell HQ5.out 2)
    have y0 : u5.cell? ⟨rb, 0, none⟩ = some (.int .i64 (i : Int)) := blk_cell HR5.out 0
    have y1 : u5.cell? ⟨rb, 1, none⟩ = some (.int .u64 (k : Int)) := blk_cell HR5.out 1
    have hbd : ∀ w, (Instr.build 83 #[(0, .agg #[.int .i64 (i : Int), .int .u64 (k : Int)]), (1, .int .u64 (nxn now at_ : Int)), (2, .int .u64 (tl.what : Int))]).run Try.prog w = .ok (.agg #[.int .i64 (i : Int), .int .u64 (k : Int), .int .u64 (nxn now at_ : Int), .int .u64 (tl.what : Int)]) w := fun w => by kernel_rfl
    refine wp_region_growM (C := fun W => AgC bs u5 h7 #[.int .i64 (tl.i : Int), .int .u64 (tl.k : Int), .int .u64 (tl.at_ : Int), .int .u64 (tl.what : Int)] D m dd (rwc 4 tmv L2) W) 16 37 [val (.pointer (some ⟨q, 0, none⟩)), val (.pointer (some ⟨q, 0, none⟩)), val (.pointer (some ⟨q, 0, none⟩)), val (.pointer (some ⟨q, 1, none⟩)), val (.slice D m dd), val (.agg #[.int .i64 (i : Int), .int .u64 (k : Int)]), val (.pointer (some ⟨q, 0, none⟩)), val (.int .u64 (at_ : Int)), val (.int .u64 (nxn now at_ : Int)), val (.pointer (some ⟨h7, 3, none⟩)), val (.int .u64 (tl.what : Int)), val (.agg #[.int .i64 (i : Int), .int .u64 (k : Int), .int .u64 (nxn now at_ : Int), .int .u64 (tl.what : Int)]), fun v W => ∃ zb, v = .slice (some ⟨zb, 0, none⟩) 1 1 ∧ W.heap[zb]? = some (.cells #[.int .i64 (i : Int), .int .u64 (k : Int), .int .u64 (nxn now at_ : Int), .int .u64 (tl.what : Int)] 83 (0, 0)), fun v W => ∃ A2 c2, v = .slice A2 (m + 1) c2 ∧ OwnC W bs 83 4 A2 (m + 1) c2 (rwc 4 tmv (L2 ++ [(⟨i, k, nxn now at_, tl.what⟩ : Tm)])), val (.pointer (some ⟨q, 0, none⟩)), val (.pointer (some ⟨q, 1, none⟩))] (by kernel_rfl) rfl (by kernel_rfl) rfl 13 (AppR bs 83 4 m) ⟨stb_val _, stb_val _, stb_val _, stb_val _, stb_val _, stb_val _, stb_val _, stb_val _, stb_val _, stb_val _, stb_val _, stb_val _, (fun v W W' h hb => by obtain ⟨zb, h1, h2⟩ := h; exact ⟨zb, h1, (hb.block _ (lt_heap h2)).trans h2⟩), (fun v W W' h hb => by obtain ⟨A2, c2, h1, h2⟩ := h; exact ⟨A2, c2, h1, h2.below hb⟩), stb_val _, stb_val _, trivial⟩ ⟨stbR_val _ _, stbR_val _ _, stbR_val _ _, stbR_val _ _, stbR_val _ _, stbR_val _ _, stbR_val _ _, stbR_val _ _, stbR_val _ _, stbR_val _ _, stbR_val _ _, stbR_val _ _, (fun v W W' h hb => by obtain ⟨zb, h1, h2⟩ := h; exact ⟨zb, h1, (hb.small _ _ _ h2 (show _ ≤ 4 by simp)).trans h2⟩), stbR_val _ _, stbR_val _ _, trivial⟩ ⟨HBZ.out, (Below.refl _ _).drew, H7R.out, HOD.out.drew⟩ ?_ ?_
    · refine eachE_cons (by decide) ?_ ?_
      · intro a W hC hd; have hW := hC.2.1
        have h0 : a.tmps[0]?.getD undef = .pointer (some ⟨q, 0, none⟩) := slot_eq (hd 0 (by decide))
        exact grows_value _ hC (by simp [execOp, Act.eval, h0]) rfl
      refine eachE_cons (by decide) ?_ ?_
      · intro a W hC hd; have hW := hC.2.1
        have h0 : a.tmps[0]?.getD undef = .pointer (some ⟨q, 0, none⟩) := slot_eq (hd 0 (by decide))
        exact grows_value _ hC (by simp [execOp, Act.eval, h0]) rfl
      refine eachE_cons (by decide) ?_ ?_
      · intro a W hC hd; have hW := hC.2.1
        have h22 : a.tmps[22]?.getD undef = .pointer (some ⟨q, 0, none⟩) := slot_eq (hd 22 (by decide))
        refine grows_value _ hC (?_ : _ = _) rfl
        clear hd
        go_simp
      refine eachE_cons (by decide) ?_ ?_
      · intro a W hC hd; have hW := hC.2.1
        have h23 : a.tmps[23]?.getD undef = .pointer (some ⟨q, 0, none⟩) := slot_eq (hd 23 (by decide))
        refine grows_value _ hC (?_ : _ = _) rfl
        clear hd
        go_simp
      refine eachE_cons (by decide) ?_ ?_
      · intro a W hC hd; have hW := hC.2.1
        have h24 : a.tmps[24]?.getD undef = .pointer (some ⟨q, 1, none⟩) := slot_eq (hd 24 (by decide))
        have xx : W.cell? ⟨q, 1, none⟩ = some (.slice D m dd) := (hW.cell (p := ⟨q, 1, none⟩) HQB.out).trans x1
        refine grows_value _ hC (?_ : _ = _) rfl
        clear hd
        go_simp
      refine eachE_cons (by decide) ?_ ?_
      · intro a W hC hd; have hW := hC.2.1
        have h4 : a.tmps[4]?.getD undef = .pointer (some ⟨rb, 0, none⟩) := slot_eq (hd 4 (by decide))
        have xx0 : W.cell? ⟨rb, 0, none⟩ = some (.int .i64 (i : Int)) := (hW.cell (p := ⟨rb, 0, none⟩) HRB.out).trans y0
        have xx1 : W.cell? ⟨rb, 1, none⟩ = some (.int .u64 (k : Int)) := (hW.cell (p := ⟨rb, 1, none⟩) HRB.out).trans y1
        refine grows_value _ hC (?_ : _ = _) rfl
        clear hd
        go_simp
      refine eachE_cons (by decide) ?_ ?_
      · intro a W hC hd; have hW := hC.2.1
        have h0 : a.tmps[0]?.getD undef = .pointer (some ⟨q, 0, none⟩) := slot_eq (hd 0 (by decide))
        exact grows_value _ hC (by simp [execOp, Act.eval, h0]) rfl
      refine eachE_cons (by decide) ?_ ?_
      · intro a W hC hd; have hW := hC.2.1
        have h2 : a.tmps[2]?.getD undef = .int .u64 (at_ : Int) := slot_eq (hd 2 (by decide))
        exact grows_value _ hC (by simp [execOp, Act.eval, h2]) rfl
      refine eachE_cons (by decide) ?_ ?_
      · intro a W hC hd; have hW := hC.2.1
        have h27 : a.tmps[27]?.getD undef = .pointer (some ⟨q, 0, none⟩) := slot_eq (hd 27 (by decide))
        have h28 : a.tmps[28]?.getD undef = .int .u64 (at_ : Int) := slot_eq (hd 28 (by decide))
        refine grows_call (fn := 49) (args := #[.pointer (some ⟨q, 0, none⟩), .int .u64 (at_ : Int)]) (by clear hd; go_simp) ?_
        refine (rtickc ((hW.cell (p := ⟨q, 2, none⟩) HQB.out).trans x2.out) at_ HNW.out).mono ?_
        rintro e W' ⟨rfl, hb⟩
        exact ⟨_, rfl, rfl, hb, hC.step hb⟩
      refine eachE_cons (by decide) ?_ ?_
      · intro a W hC hd; have hW := hC.2.1
        have h7 : a.tmps[7]?.getD undef = .pointer (some ⟨h7, 0, none⟩) := slot_eq (hd 7 (by decide))
        refine grows_value _ hC (?_ : _ = _) rfl
        clear hd
        go_simp
      refine eachE_cons (by decide) ?_ ?_
      · intro a W hC hd; have hW := hC.2.1
        have h30 : a.tmps[30]?.getD undef = .pointer (some ⟨h7, 3, none⟩) := slot_eq (hd 30 (by decide))
        have xx : W.cell? ⟨h7, 3, none⟩ = some (.int .u64 (tl.what : Int)) := blk_cell hC.2.2.1 3
        refine grows_value _ hC (?_ : _ = _) rfl
        clear hd
        go_simp
      refine eachE_cons (by decide) ?_ ?_
      · intro a W hC hd; have hW := hC.2.1
        have h26 : a.tmps[26]?.getD undef = .agg #[.int .i64 (i : Int), .int .u64 (k : Int)] := slot_eq (hd 26 (by decide))
        have h29 : a.tmps[29]?.getD undef = .int .u64 (nxn now at_ : Int) := slot_eq (hd 29 (by decide))
        have h31 : a.tmps[31]?.getD undef = .int .u64 (tl.what : Int) := slot_eq (hd 31 (by decide))
        refine grows_value _ hC (?_ : _ = _) rfl
        have hb' := hbd W
        clear hd
        simp [execOp, Act.eval, h26, h29, h31, hb']
      refine eachE_cons (by decide) ?_ ?_
      · intro a W hC hd; have hW := hC.2.1
        have h32 : a.tmps[32]?.getD undef = .agg #[.int .i64 (i : Int), .int .u64 (k : Int), .int .u64 (nxn now at_ : Int), .int .u64 (tl.what : Int)] := slot_eq (hd 32 (by decide))
        refine grows_new (w' := W.alloc (.cells #[.int .i64 (i : Int), .int .u64 (k : Int), .int .u64 (nxn now at_ : Int), .int .u64 (tl.what : Int)] 83)) (.slice (some ⟨W.heap.size, 0, none⟩) 1 1) (?_ : _ = _) ⟨W.heap.size, rfl, heap_alloc_new W _⟩ (below_alloc W _) (hC.step (below_alloc W _))
        clear hd
        go_simp
      refine eachE_mid ?_ ?_
      · intro a W hC hd; have hW := hC.2.1
        have h25 : a.tmps[25]?.getD undef = .slice D m dd := slot_eq (hd 25 (by decide))
        obtain ⟨zb, h33, hzb⟩ := hd 33 (by decide)
        have h33' : a.tmps[33]?.getD undef = .slice (some ⟨zb, 0, none⟩) 1 1 := slot_eq h33
        obtain ⟨A2, c2, W', hrun, hown2, hrel⟩ := run_append_two (P := Try.prog) bs 37 37 83 i0 (.agg #[.int .i64 0, .int .u64 0, .int .u64 0, .int .u64 0]) 4 Try.underlying37 HI0.out HZ0.out HZ1.out rfl (by decide) hC.2.2.2 (b := zb) (off := 0) (c' := 1) (g := fun j => (tmv (⟨i, k, nxn now at_, tl.what⟩ : Tm)).getD j undef) (fun j hj => by
          rw [Nat.zero_add, blk_cell hzb j]
          rcases (show j = 0 ∨ j = 1 ∨ j = 2 ∨ j = 3 by omega) with rfl | rfl | rfl | rfl <;> rfl) (fun j hj => tmv_one _ j hj) (by have := HML.out; unfold maxLen; omega) (by have := HML.out; rw [HZ2.out]; omega) (Nat.le_trans hC.1 hW.size) HDZ.out
        refine growsE_new (.slice A2 (m + 1) c2) (w' := W') ?_ ⟨A2, c2, rfl, hown2.same fun j hj => ?_⟩ hrel (hC.app hrel (show _ ≤ 4 by simp))
        · clear hd
          simp only [execOp, resolve, invoke, builtin, Sem.run_bind, Sem.run_pure, Result.andThen_ok, List.map_toArray, List.map_cons, List.map_nil, Act.eval, Array.getD_eq_getD_getElem?, h25, h33', hrun]
        · have e := rwc_snoc (sz := 4) (by decide) tmv L2 (⟨i, k, nxn now at_, tl.what⟩ : Tm) j (by rw [← HM.out]; exact hj)
          rw [← HM.out] at e
          exact e
      refine eachE_cons (by decide) ?_ ?_
      · intro a W hC hd; have hW := hC.2.1
        have h21 : a.tmps[21]?.getD undef = .pointer (some ⟨q, 0, none⟩) := slot_eq (hd 21 (by decide))
        refine grows_value _ hC (?_ : _ = _) rfl
        clear hd
        go_simp
      refine eachE_cons (by decide) ?_ ?_
      · intro a W hC hd; have hW := hC.2.1
        have h35 : a.tmps[35]?.getD undef = .pointer (some ⟨q, 0, none⟩) := slot_eq (hd 35 (by decide))
        refine grows_value _ hC (?_ : _ = _) rfl
        clear hd
        go_simp
      exact eachE_nil
    · refine behind_val rfl ?_
      refine behind_val rfl ?_
      refine behind_val rfl ?_
      refine behind_val rfl ?_
      refine behind_val rfl ?_
      refine behind_val rfl ?_
      refine behind_val rfl ?_
      refine behind_val rfl ?_
      refine behind_val rfl ?_
      refine behind_val rfl ?_
      refine behind_val rfl ?_
      refine behind_val rfl ?_
      refine behind_cons fun v33 => ?_
      refine behind_cons fun v34 => ?_
      refine behind_val rfl ?_
      refine behind_val rfl ?_
      refine behind_nil fun u7 hC7 hF7 => ?_
      obtain ⟨⟨_, _⟩, A2, c2, rfl, hown⟩ := hF7
      have HK7 := Lib.hid (HK5.out.low hC7.2.1 (by rw [HBS.out]; exact Nat.le_refl _))
      have HOW := Lib.hid hown
      have HQ7 : Hid (u7.heap[q]? = some (.cells #[.pointer (some ⟨r, 0, none⟩), .slice D m dd, .int .u64 (now : Int)] 39 (0, 0))) := Lib.hid ((hC7.2.1.block q HQB.out).trans HQ5.out)
      clear hC7 hown x1 y0 y1 hbd
      simp only [Act.put, List.setIfInBounds_toArray, List.set_cons_succ, List.set_cons_zero, List.drop_succ_cons, List.drop_zero]
      have f1 := blk_free HQ7.out 1
      have g1 : u7.cell? ⟨q, 1, none⟩ = some (.slice D m dd) := blk_cell HQ7.out 1
      have hlen : (L2 ++ [(⟨i, k, nxn now at_, tl.what⟩ : Tm)]).length = m + 1 := by rw [List.length_append, ← HM.out]; rfl
      have hset := HX3.out.setRow_ (L' := L2 ++ [(⟨i, k, nxn now at_, tl.what⟩ : Tm)]) (B' := A2) (d' := c2) (w' := u7.setCell ⟨q, 1, none⟩ (.slice A2 (m + 1) c2)) (Kept.setCell (R := fun k => k = q) HK7.out (p := ⟨q, 1, none⟩) (.inl rfl) _) (by rw [hlen]; exact blk_set HQ7.out 1 _) (by rw [hlen, ← HBS.out]; exact HOW.out.far (p := ⟨q, 1, none⟩) HQB.out _)
      have HX8 := Lib.hid hset.1
      have HE8 := Lib.hid (HE3.out.trans hset.2)
      clear hset HX3 HE3
      go_wp2_with fail
      go_ret
      refine ⟨rfl, ⟨A2, c2, _, ?_, HE8.out⟩⟩
      have h9 := HX8.out
      rw [HL2.out, HTL.out] at h9
      exact h9
end
end Go.Proofs.Ytkmakdhlaenaoaa
