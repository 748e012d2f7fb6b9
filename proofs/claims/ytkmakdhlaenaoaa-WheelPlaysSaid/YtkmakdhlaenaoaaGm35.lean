import Derived.Test.YtkmakdhlaenaoaaGm34
/- Stage 11: the document's Cancel, Due. -/
namespace Go.Proofs.Ytkmakdhlaenaoaa
set_option maxRecDepth 100000
open Go.RowKit Go.Shelf
/-- The tick of a handle's timer, and whether there is one. -/
def dueL (L : List Tm) (i : Int) (k : Nat) : Array Value := match L.find? fun t => t.is_ i k with
  | some t => #[.int .u64 (t.at_ : Int), .bool true]
  | none => #[.int .u64 0, .bool false]
theorem dueL_hit {L : List Tm} {j : Nat} {t : Tm} {i : Int} {k : Nat} (ht : L[j]? = some t) (hj : (L.take j).find? (fun t => t.is_ i k) = none) (hb : t.is_ i k = true) : dueL L i k = #[.int .u64 (t.at_ : Int), .bool true] := by
  obtain ⟨hlt, he⟩ := List.getElem?_eq_some_iff.1 ht
  have e : L.find? (fun t => t.is_ i k) = some t := by
    rw [← List.take_append_drop j L, List.find?_append, hj, List.drop_eq_getElem_cons hlt, he]
    simp [hb]
  unfold dueL
  rw [e]
theorem dueL_no {L : List Tm} {i : Int} {k : Nat} (h : L.find? (fun t => t.is_ i k) = none) : dueL L i k = #[.int .u64 0, .bool false] := by
  unfold dueL
  rw [h]
theorem find_snoc {l : List Tm} {t : Tm} {p : Tm → Bool} (h : l.find? p = none) (hb : p t = false) : (l ++ [t]).find? p = none := by
  rw [List.find?_append, h]
  simp [hb]
section
variable {w : World} {q r : Nat} {B : Option Addr} {d : Nat} {A : Ar} {L : List Tm} {now : Nat} {G : Nat → Prop}
set_option maxHeartbeats 1000000 in
theorem rdue (h : DX w q r B d A L now G) (hL : L.length ≤ 65536) (hi : Int) (k : Nat) : Calls Try.prog 14 #[.pointer (some ⟨q, 0, none⟩), .agg #[.int .i64 hi, .int .u64 (k : Int)]] w (ret (.tuple (dueL L hi k)) w) := by
  have HB1 := Lib.hid (below_alloc w (.cells #[.int .i64 hi, .int .u64 (k : Int)] 46))
  have hsz : (w.alloc (.cells #[.int .i64 hi, .int .u64 (k : Int)] 46)).heap.size = w.heap.size + 1 := by simp
  have HX1 := Lib.hid (h.step (below_alloc w (.cells #[.int .i64 hi, .int .u64 (k : Int)] 46)))
  have HE1 := Lib.hid ((Ext.refl G w).step (below_alloc w (.cells #[.int .i64 hi, .int .u64 (k : Int)] 46)))
  have HR1 : Hid ((w.alloc (.cells #[.int .i64 hi, .int .u64 (k : Int)] 46)).heap[w.heap.size]? = some (.cells #[.int .i64 hi, .int .u64 (k : Int)] 46 (0, 0))) := Lib.hid (heap_alloc_new w _)
  obtain ⟨rb, hrb⟩ : ∃ rb, rb = w.heap.size := ⟨_, rfl⟩
  rw [← hrb] at HR1
  have HNF1 : Hid (¬ G rb) := Lib.hid fun hF => by have := h.old rb hF; omega
  clear h
  go_enter Try.func14, Try.ntmps14
  go_upto_region 1 with fail
  change Code.wp _ _ _ _ (w.alloc (.cells #[.int .i64 hi, .int .u64 (k : Int)] 46))
  rw [← hrb]
  clear hrb
  generalize w.alloc (.cells #[.int .i64 hi, .int .u64 (k : Int)] 46) = u1 at *
  have x0 : u1.cell? ⟨q, 0, none⟩ = some (.pointer (some ⟨r, 0, none⟩)) := blk_cell HX1.out.blk 0
  have y0 : u1.cell? ⟨rb, 0, none⟩ = some (.int .i64 hi) := blk_cell HR1.out 0
  have y1 : u1.cell? ⟨rb, 1, none⟩ = some (.int .u64 (k : Int)) := blk_cell HR1.out 1
  have HQL : Hid (q < u1.heap.size) := Lib.hid (lt_heap HX1.out.blk)
  have HRL : Hid (rb < u1.heap.size) := Lib.hid (lt_heap HR1.out)
  have HSZ : Hid (w.heap.size ≤ u1.heap.size) := Lib.hid HB1.out.size
  clear hsz x0 y0 y1
  obtain ⟨n, hn⟩ : ∃ n, n = L.length := ⟨_, rfl⟩
  have HN := Lib.hid hn
  rw [← hn] at hL
  clear hn
  go_wp2_with fail
  go_loopw [6] (fun vi wr => ∃ j : Nat, vi = .int .i64 (j : Int) ∧ j ≤ n ∧ Hid ((L.take j).find? (fun t => t.is_ hi k) = none) ∧ Below u1.heap.size u1 wr) (fun vi _ => n - (intOf vi).toNat)
  case atStart => exact ⟨0, rfl, Nat.zero_le _, Lib.hid rfl, Below.refl _ _⟩
  case round =>
    obtain ⟨j, rfl, hj, hf, hb⟩ := hrel
    have HFN := Lib.hid hf.out
    have HBL := Lib.hid hb
    have HX := Lib.hid (HX1.out.step hb)
    have HR := Lib.hid (box_step HR1.out hb)
    clear hf hb
    have x1 : wr.cell? ⟨q, 1, none⟩ = some (.slice B n d) := by rw [HN.out]; exact blk_cell HX.out.blk 1
    have hd1 := HX.out.d1
    have hd2 := HX.out.d2
    rw [← HN.out] at hd1
    by_cases hjn : j < n
    · have j1 : (j : Int) < (n : Int) := by omega
      have j0 : (0 : Int) ≤ (j : Int) := by omega
      have j2 : ((j : Int)).toNat = j := by omega
      have zj : IntKind.i64.wrap ((j : Int) + 1) = (j : Int) + 1 := by rw [IntKind.wrap_i64]; omega
      obtain ⟨t, ht⟩ : ∃ t, L[j]? = some t := ⟨_, List.getElem?_eq_getElem (by rw [← HN.out]; exact hjn)⟩
      obtain ⟨bb, off, rfl, hbb, hc⟩ := HX.out.row ht
      have hrg2 : wr.rangeAt bb (off + j * 4) [.int .i64 (t.i : Int), .int .u64 (t.k : Int)] := fun i v hv => by
        match i, hv with
        | 0, hv => rw [← hv]; exact hc 0 (by omega)
        | 1, hv => rw [← hv, Nat.add_assoc]; exact hc 1 (by omega)
      have hat : wr.cell? ⟨bb, off + j * 4 + 2, none⟩ = some (.int .u64 (t.at_ : Int)) := by rw [Nat.add_assoc]; exact hc 2 (by omega)
      have HRG2 : Hid (∀ x, (∃ V : Stay wr, x = V.w) → x.rangeAt bb (off + j * 4) [.int .i64 (t.i : Int), .int .u64 (t.k : Int)]) := Lib.hid (stay_rng hbb hrg2)
      have heq := eqT t hi k
      have HT := Lib.hid ht
      have x1s : ∀ V : Stay wr, V.w.cell? ⟨q, 1, none⟩ = some (.slice (some ⟨bb, off, none⟩) n d) := fun V => Stay.cell x1 V
      have hats : ∀ V : Stay wr, V.w.cell? ⟨bb, off + j * 4 + 2, none⟩ = some (.int .u64 (t.at_ : Int)) := fun V => Stay.cell hat V
      clear hc hrg2 hbb ht hat
      go_upto_region 4 with fail
      refine wp_region_stay (by kernel_rfl) (by kernel_rfl) ?_
      repeat (first
        | (refine qh_row rfl 46 (.tmp 3) rfl rb rfl 46 #[.int .i64 hi, .int .u64 (k : Int)] (0, 0) _ (stay_hp HR.out) Try.underlying46 rfl (by kernel_rfl) ?_
           simp only [Act.put, List.setIfInBounds_toArray, List.set_cons_zero, List.set_cons_succ])
        | (refine qh_mid rfl 46 (.tmp 22) rfl bb (off + j * 4) rfl #[.int .i64 (t.i : Int), .int .u64 (t.k : Int)] _ HRG2.out Try.underlying46 rfl (by kernel_rfl) ?_
           simp only [Act.put, List.setIfInBounds_toArray, List.set_cons_zero, List.set_cons_succ])
        | go_big_quiet_step (fail))
      refine wpQuiet_nil ?_
      intro w' hw'
      obtain ⟨V, rfl⟩ := hw'
      have HBV : Hid (Below u1.heap.size u1 V.w) := Lib.hid (HBL.out.trans (V.below.mono HBL.out.size))
      have y1 := x1s V
      have y2 := hats V
      clear x1 x1s hats HRG2 heq HX HR HBL
      generalize V.w = u2 at *
      by_cases hb : t.is_ hi k = true
      · rw [hb]
        have HDU := Lib.hid (dueL_hit HT.out HFN.out hb)
        clear hb HT HFN
        go_wp2_with fail
        try rw [Exit.noGoto_ret]
        go_ret2
        exact ⟨by rw [HDU.out] <;> rfl, HB1.out.trans (HBV.out.mono HSZ.out)⟩
      · have hb' : t.is_ hi k = false := by simpa using hb
        rw [hb']
        have HF2 := find_snoc HFN.out hb'
        rw [← tk_snoc HT.out] at HF2
        have HF3 := Lib.hid HF2
        clear hb hb' HT HFN HF2
        go_wp2_with fail
        go_roundw
        case rel => exact ⟨j + 1, by go_num, by omega, HF3, HBV.out⟩
        case measure => simp [intOf]; omega
    · obtain rfl : n = j := by omega
      have e1 : L.take n = L := by rw [HN.out]; exact List.take_length
      have HDU := Lib.hid (dueL_no (by rw [← e1]; exact HFN.out) : dueL L hi k = _)
      clear hjn HFN e1 HX HR
      go_wp2_with fail
      go_ret2
      exact ⟨by rw [HDU.out] <;> rfl, HB1.out.trans (HBL.out.mono HSZ.out)⟩
theorem rcancel_no (h : DX w q r B d A L now G) (hA : A.Ok) (hn : A.has.length ≤ 65536) (hi : Int) (k : Nat) (hl : A.live hi k = false) : Calls Try.prog 27 #[.pointer (some ⟨q, 0, none⟩), .agg #[.int .i64 hi, .int .u64 (k : Int)]] w fun e w' => e = .returned (.int .i64 14) ∧ ∃ B' d' G', DX w' q r B' d' A L now G' ∧ Ext G G' w w' := by
  have HFR : Hid (∀ (W : World) (Gw : Nat → Prop), DX W q r B d A L now Gw → Calls Try.prog 50 #[.pointer (some ⟨r, 0, none⟩), .agg #[.int .i64 hi, .int .u64 (k : Int)]] W fun e w' => e = .returned (.int .i64 14) ∧ ∃ G', DX w' q r B d A L now G' ∧ Ext Gw G' W w') := Lib.hid fun W Gw hx => hx.arena fun Gr ha => (rfree_any hA ha hn hi k).mono fun e w' hh => by
    rcases hh with ⟨_, he, hb⟩ | ⟨h1, _⟩
    · exact ⟨he, Gr, ha.keep (Kept.of_below hb fun _ => False) (fun _ _ q => q), (Ext.refl Gr W).step hb⟩
    · rw [hl] at h1
      cases h1
  clear hA hn hl
  have HX1 := Lib.hid (h.step (below_alloc w (.cells #[.int .i64 hi, .int .u64 (k : Int)] 46)))
  have HE1 := Lib.hid ((Ext.refl G w).step (below_alloc w (.cells #[.int .i64 hi, .int .u64 (k : Int)] 46)))
  have HR1 : Hid ((w.alloc (.cells #[.int .i64 hi, .int .u64 (k : Int)] 46)).heap[w.heap.size]? = some (.cells #[.int .i64 hi, .int .u64 (k : Int)] 46 (0, 0))) := Lib.hid (heap_alloc_new w _)
  obtain ⟨rb, hrb⟩ : ∃ rb, rb = w.heap.size := ⟨_, rfl⟩
  rw [← hrb] at HR1
  have HNF1 : Hid (¬ G rb) := Lib.hid fun hF => by have := h.old rb hF; omega
  clear h
  go_enter Try.func27, Try.ntmps27
  go_upto_region 1 with fail
  change Code.wp _ _ _ _ (w.alloc (.cells #[.int .i64 hi, .int .u64 (k : Int)] 46))
  rw [← hrb]
  clear hrb
  generalize w.alloc (.cells #[.int .i64 hi, .int .u64 (k : Int)] 46) = u1 at *
  have x0 : u1.cell? ⟨q, 0, none⟩ = some (.pointer (some ⟨r, 0, none⟩)) := blk_cell HX1.out.blk 0
  have y0 : u1.cell? ⟨rb, 0, none⟩ = some (.int .i64 hi) := blk_cell HR1.out 0
  have y1 : u1.cell? ⟨rb, 1, none⟩ = some (.int .u64 (k : Int)) := blk_cell HR1.out 1
  have HQL : Hid (q < u1.heap.size) := Lib.hid (lt_heap HX1.out.blk)
  have HRL : Hid (rb < u1.heap.size) := Lib.hid (lt_heap HR1.out)
  refine wp_region_grow (C := fun W => Below u1.heap.size u1 W) 5 18 [val (.pointer (some ⟨q, 0, none⟩)), val (.pointer (some ⟨q, 0, none⟩)), val (.pointer (some ⟨q, 0, none⟩)), val (.pointer (some ⟨r, 0, none⟩)), val (.agg #[.int .i64 hi, .int .u64 (k : Int)])] (by kernel_rfl) rfl (by kernel_rfl) rfl ⟨stb_val _, stb_val _, stb_val _, stb_val _, stb_val _, trivial⟩ (Below.refl _ _).drew ?_ ?_
  · refine each_cons ?_ ?_
    · intro a W hW hd
      have h0 : a.tmps[0]?.getD undef = .pointer (some ⟨q, 0, none⟩) := slot_eq (hd 0 (by decide))
      exact grows_value _ hW (by simp [execOp, Act.eval, h0]) rfl
    refine each_cons ?_ ?_
    · intro a W hW hd
      have h6 : a.tmps[6]?.getD undef = .pointer (some ⟨q, 0, none⟩) := slot_eq (hd 6 (by decide))
      refine grows_value _ hW (?_ : _ = _) rfl
      clear hd
      go_simp
    refine each_cons ?_ ?_
    · intro a W hW hd
      have h7 : a.tmps[7]?.getD undef = .pointer (some ⟨q, 0, none⟩) := slot_eq (hd 7 (by decide))
      refine grows_value _ hW (?_ : _ = _) rfl
      clear hd
      go_simp
    refine each_cons ?_ ?_
    · intro a W hW hd
      have h8 : a.tmps[8]?.getD undef = .pointer (some ⟨q, 0, none⟩) := slot_eq (hd 8 (by decide))
      have xx : W.cell? ⟨q, 0, none⟩ = some (.pointer (some ⟨r, 0, none⟩)) := (hW.cell (p := ⟨q, 0, none⟩) HQL.out).trans x0
      refine grows_value _ hW (?_ : _ = _) rfl
      clear hd
      go_simp
    refine each_cons ?_ ?_
    · intro a W hW hd
      have h3 : a.tmps[3]?.getD undef = .pointer (some ⟨rb, 0, none⟩) := slot_eq (hd 3 (by decide))
      have xx0 : W.cell? ⟨rb, 0, none⟩ = some (.int .i64 hi) := (hW.cell (p := ⟨rb, 0, none⟩) HRL.out).trans y0
      have xx1 : W.cell? ⟨rb, 1, none⟩ = some (.int .u64 (k : Int)) := (hW.cell (p := ⟨rb, 1, none⟩) HRL.out).trans y1
      refine grows_value _ hW (?_ : _ = _) rfl
      clear hd
      go_simp
    exact each_nil
  · refine behind_val rfl ?_
    refine behind_val rfl ?_
    refine behind_val rfl ?_
    refine behind_val rfl ?_
    refine behind_val rfl ?_
    refine behind_nil fun u2 hC2 hF2 => ?_
    have HX2 := Lib.hid (HX1.out.keep (Kept.of_below hC2 fun _ => False) fun _ _ q => q)
    have HE2 := Lib.hid (HE1.out.step hC2)
    have HR2 := Lib.hid (box_step HR1.out hC2)
    clear hC2 hF2 x0 y0 y1 HX1 HE1 HR1
    simp only [Act.put, List.setIfInBounds_toArray, List.set_cons_succ, List.set_cons_zero, List.drop_succ_cons, List.drop_zero]
    go_wp2_with (first
      | (go_at_call 50
         refine (HFR.out _ _ HX2.out).mono ?_
         rintro e u3 ⟨rfl, F3, hx3, he3⟩
         have HX3 := Lib.hid hx3
         have HE3 := Lib.hid (HE2.out.trans he3)
         have HR3 := Lib.hid (he3.box HR2.out HNF1.out).1
         clear hx3 he3 HX2 HE2 HR2 HFR))
    go_ret
    exact ⟨rfl, _, _, _, HX3.out, HE3.out⟩
set_option maxHeartbeats 1000000 in
theorem rcancel_ok (h : DX w q r B d A L now G) (hA : A.Ok) (hn : A.has.length ≤ 65536) (hL : L.length ≤ 65536) (hi : Int) (k : Nat) (hl : A.live hi k = true) : Calls Try.prog 27 #[.pointer (some ⟨q, 0, none⟩), .agg #[.int .i64 hi, .int .u64 (k : Int)]] w fun e w' => e = .returned (.int .i64 0) ∧ ∃ B' d' G', DX w' q r B' d' (A.gone hi.toNat) (Wh.drop L hi k) now G' ∧ Ext G G' w w' := by
  have HFR : Hid (∀ (W : World) (Gw : Nat → Prop), DX W q r B d A L now Gw → Calls Try.prog 50 #[.pointer (some ⟨r, 0, none⟩), .agg #[.int .i64 hi, .int .u64 (k : Int)]] W fun e w' => e = .returned (.int .i64 0) ∧ ∃ G', DX w' q r B d (A.gone hi.toNat) L now G' ∧ Ext Gw G' W w') := Lib.hid fun W Gw hx => hx.arena fun Gr ha => (rfree_any hA ha hn hi k).mono fun e w' hh => by
    rcases hh with ⟨h1, _⟩ | ⟨h1, he, h2, hk⟩
    · rw [hl] at h1
      cases h1
    · obtain ⟨_, _, _, _, hx⟩ := ha
      exact ⟨he, _, h2, ⟨fun k g => g, hk.mono fun k _ e => by rw [e]; exact hx.mem⟩⟩
  have HLL := Lib.hid hL
  clear hA hn hl hL
  have HX1 := Lib.hid (h.step (below_alloc w (.cells #[.int .i64 hi, .int .u64 (k : Int)] 46)))
  have HE1 := Lib.hid ((Ext.refl G w).step (below_alloc w (.cells #[.int .i64 hi, .int .u64 (k : Int)] 46)))
  have HR1 : Hid ((w.alloc (.cells #[.int .i64 hi, .int .u64 (k : Int)] 46)).heap[w.heap.size]? = some (.cells #[.int .i64 hi, .int .u64 (k : Int)] 46 (0, 0))) := Lib.hid (heap_alloc_new w _)
  obtain ⟨rb, hrb⟩ : ∃ rb, rb = w.heap.size := ⟨_, rfl⟩
  rw [← hrb] at HR1
  have HNF1 : Hid (¬ G rb) := Lib.hid fun hF => by have := h.old rb hF; omega
  clear h
  go_enter Try.func27, Try.ntmps27
  go_upto_region 1 with fail
  change Code.wp _ _ _ _ (w.alloc (.cells #[.int .i64 hi, .int .u64 (k : Int)] 46))
  rw [← hrb]
  clear hrb
  generalize w.alloc (.cells #[.int .i64 hi, .int .u64 (k : Int)] 46) = u1 at *
  have x0 : u1.cell? ⟨q, 0, none⟩ = some (.pointer (some ⟨r, 0, none⟩)) := blk_cell HX1.out.blk 0
  have y0 : u1.cell? ⟨rb, 0, none⟩ = some (.int .i64 hi) := blk_cell HR1.out 0
  have y1 : u1.cell? ⟨rb, 1, none⟩ = some (.int .u64 (k : Int)) := blk_cell HR1.out 1
  have HQL : Hid (q < u1.heap.size) := Lib.hid (lt_heap HX1.out.blk)
  have HRL : Hid (rb < u1.heap.size) := Lib.hid (lt_heap HR1.out)
  refine wp_region_grow (C := fun W => Below u1.heap.size u1 W) 5 18 [val (.pointer (some ⟨q, 0, none⟩)), val (.pointer (some ⟨q, 0, none⟩)), val (.pointer (some ⟨q, 0, none⟩)), val (.pointer (some ⟨r, 0, none⟩)), val (.agg #[.int .i64 hi, .int .u64 (k : Int)])] (by kernel_rfl) rfl (by kernel_rfl) rfl ⟨stb_val _, stb_val _, stb_val _, stb_val _, stb_val _, trivial⟩ (Below.refl _ _).drew ?_ ?_
  · refine each_cons ?_ ?_
    · intro a W hW hd
      have h0 : a.tmps[0]?.getD undef = .pointer (some ⟨q, 0, none⟩) := slot_eq (hd 0 (by decide))
      exact grows_value _ hW (by simp [execOp, Act.eval, h0]) rfl
    refine each_cons ?_ ?_
    · intro a W hW hd
      have h6 : a.tmps[6]?.getD undef = .pointer (some ⟨q, 0, none⟩) := slot_eq (hd 6 (by decide))
      refine grows_value _ hW (?_ : _ = _) rfl
      clear hd
      go_simp
    refine each_cons ?_ ?_
    · intro a W hW hd
      have h7 : a.tmps[7]?.getD undef = .pointer (some ⟨q, 0, none⟩) := slot_eq (hd 7 (by decide))
      refine grows_value _ hW (?_ : _ = _) rfl
      clear hd
      go_simp
    refine each_cons ?_ ?_
    · intro a W hW hd
      have h8 : a.tmps[8]?.getD undef = .pointer (some ⟨q, 0, none⟩) := slot_eq (hd 8 (by decide))
      have xx : W.cell? ⟨q, 0, none⟩ = some (.pointer (some ⟨r, 0, none⟩)) := (hW.cell (p := ⟨q, 0, none⟩) HQL.out).trans x0
      refine grows_value _ hW (?_ : _ = _) rfl
      clear hd
      go_simp
    refine each_cons ?_ ?_
    · intro a W hW hd
      have h3 : a.tmps[3]?.getD undef = .pointer (some ⟨rb, 0, none⟩) := slot_eq (hd 3 (by decide))
      have xx0 : W.cell? ⟨rb, 0, none⟩ = some (.int .i64 hi) := (hW.cell (p := ⟨rb, 0, none⟩) HRL.out).trans y0
      have xx1 : W.cell? ⟨rb, 1, none⟩ = some (.int .u64 (k : Int)) := (hW.cell (p := ⟨rb, 1, none⟩) HRL.out).trans y1
      refine grows_value _ hW (?_ : _ = _) rfl
      clear hd
      go_simp
    exact each_nil
  · refine behind_val rfl ?_
    refine behind_val rfl ?_
    refine behind_val rfl ?_
    refine behind_val rfl ?_
    refine behind_val rfl ?_
    refine behind_nil fun u2 hC2 hF2 => ?_
    have HX2 := Lib.hid (HX1.out.keep (Kept.of_below hC2 fun _ => False) fun _ _ q => q)
    have HE2 := Lib.hid (HE1.out.step hC2)
    have HR2 := Lib.hid (box_step HR1.out hC2)
    clear hC2 hF2 x0 y0 y1 HX1 HE1 HR1
    simp only [Act.put, List.setIfInBounds_toArray, List.set_cons_succ, List.set_cons_zero, List.drop_succ_cons, List.drop_zero]
    go_upto_region 3 with (first
      | (go_at_call 50
         refine (HFR.out _ _ HX2.out).mono ?_
         rintro e u3 ⟨rfl, F3, hx3, he3⟩
         have HX3 := Lib.hid hx3
         have HE3 := Lib.hid (HE2.out.trans he3)
         have HR3 := Lib.hid (he3.box HR2.out HNF1.out).1
         clear hx3 he3 HX2 HE2 HR2 HFR))
    have y0 : u3.cell? ⟨rb, 0, none⟩ = some (.int .i64 hi) := blk_cell HR3.out 0
    have y1 : u3.cell? ⟨rb, 1, none⟩ = some (.int .u64 (k : Int)) := blk_cell HR3.out 1
    have HDR := Lib.hid (rdrop HX3.out HLL.out hi k)
    go_wp2_with (first
      | (go_at_call 48
         refine HDR.out.mono ?_
         rintro e u4 ⟨he, D, dd, hdz, hq4, ho4, hk4⟩
         subst he
         have hset := HX3.out.setRow_ hk4 hq4 ho4
         have HX8 := Lib.hid hset.1
         have HE8 := Lib.hid (HE3.out.trans hset.2)
         clear hset hdz hq4 ho4 hk4 HX3 HE3 HR3 HDR))
    go_ret
    exact ⟨rfl, _, _, _, HX8.out, HE8.out⟩
end
end Go.Proofs.Ytkmakdhlaenaoaa
/- Stage 11: the document's Tick. -/
namespace Go.Proofs.Ytkmakdhlaenaoaa
set_option maxRecDepth 100000
open Go.RowKit Go.Shelf
def dropAll (L F : List Tm) : List Tm := F.foldl (fun l t => Wh.drop l (t.i : Int) t.k) L
theorem dropAll_snoc (L F : List Tm) (t : Tm) : dropAll L (F ++ [t]) = Wh.drop (dropAll L F) (t.i : Int) t.k := by
  unfold dropAll
  rw [List.foldl_append]
  rfl
theorem dropAll_le (L F : List Tm) : (dropAll L F).length ≤ L.length := by
  induction F generalizing L with
  | nil => exact Nat.le_refl _
  | cons t F ih =>
    show (dropAll (Wh.drop L (t.i : Int) t.k) F).length ≤ _
    exact Nat.le_trans (ih _) (drop_le L _ _)
theorem rng_two {w : World} {b o : Nat} {x y : Value} (h0 : w.cell? ⟨b, o, none⟩ = some x) (h1 : w.cell? ⟨b, o + 1, none⟩ = some y) : w.rangeAt b o [x, y] := fun i v hv => by
  match i, hv with
  | 0, hv => rw [← hv]; exact h0
  | 1, hv => rw [← hv]; exact h1
def firesL (L : List Tm) (n1 : Nat) : List Tm := L.filter fun t => decide (t.at_ = n1)
section
variable {w : World} {q r : Nat} {B : Option Addr} {d : Nat} {A : Ar} {L : List Tm} {now : Nat} {G : Nat → Prop}
theorem rtk_last (h : DX w q r B d A L now G) (hn : now = 18446744073709551615) : Calls Try.prog 51 #[.pointer (some ⟨q, 0, none⟩)] w (ret (.tuple #[.slice none 0 0, .int .i64 15]) w) := by
  have x2 : w.cell? ⟨q, 2, none⟩ = some (.int .u64 (now : Int)) := blk_cell h.blk 2
  subst hn
  clear h
  go_enter Try.func51, Try.ntmps51
  go_wp2_with fail
  go_ret2
  exact ⟨by simp, Below.refl _ _⟩
set_option maxHeartbeats 2000000 in
theorem rtk_ok (h : DX w q r B d A L now G) (hn : now < 18446744073709551615) (hL : L.length ≤ 65536) (n1 : Nat) (hn1 : n1 = now + 1)
    (hg : ∀ j t, (firesL L n1)[j]? = some t → (goneL A (((firesL L n1).take j).map Tm.i)).Ok ∧ (goneL A (((firesL L n1).take j).map Tm.i)).live (t.i : Int) t.k = true ∧ (goneL A (((firesL L n1).take j).map Tm.i)).has.length ≤ 65536) :
    Calls Try.prog 51 #[.pointer (some ⟨q, 0, none⟩)] w fun e w' => ∃ E dE, e = .returned (.tuple #[.slice E (firesL L n1).length dE, .int .i64 0]) ∧ OwnC w' w.heap.size 58 3 E (firesL L n1).length dE (rwc 3 fev (firesL L n1)) ∧ ∃ B' d' G', DX w' q r B' d' (goneL A ((firesL L n1).map Tm.i)) (dropAll L (firesL L n1)) n1 G' ∧ Ext G G' w w' := by
  obtain ⟨i0, hi0, hz0, hz1, hz2⟩ := info_parts Try.infoFI
  have HI0 := Lib.hid hi0
  have HZ0 := Lib.hid hz0
  have HZ1 := Lib.hid hz1
  have HZ2 := Lib.hid hz2
  clear hi0 hz0 hz1 hz2
  have HG := Lib.hid hg
  have b1 : ((now : Int) == 18446744073709551615) = false := by simp; omega
  have zn : IntKind.u64.wrap ((now : Int) + 1) = (n1 : Int) := by rw [IntKind.wrap_u64]; omega
  have x2 : w.cell? ⟨q, 2, none⟩ = some (.int .u64 (now : Int)) := blk_cell h.blk 2
  have y2 := blk_free h.blk 2
  have HX1 := Lib.hid (h.setNow n1)
  have HE1 := Lib.hid ((Ext.refl G w).setCell (p := ⟨q, 2, none⟩) h.mq (.int .u64 (n1 : Int)))
  have HS1 : Hid ((w.setCell ⟨q, 2, none⟩ (.int .u64 (n1 : Int))).heap.size = w.heap.size) := Lib.hid (by simp)
  have HLL := Lib.hid hL
  clear h hg hn1
  go_enter Try.func51, Try.ntmps51
  go_upto_region 4 with fail
  clear x2 y2 zn b1 hn
  generalize w.setCell ⟨q, 2, none⟩ (.int .u64 (n1 : Int)) = u1 at *
  obtain ⟨n, hn⟩ : ∃ n, n = L.length := ⟨_, rfl⟩
  have HN := Lib.hid hn
  rw [← hn] at hL
  clear hn
  go_wp2_with fail
  go_loopw [4, 5] (fun o vi wr => ∃ (j : Nat) (E : Option Addr) (dE : Nat), vi = .int .i64 (j : Int) ∧ j ≤ n ∧ o = .slice E (firesL (L.take j) n1).length dE ∧ OwnC wr u1.heap.size 58 3 E (firesL (L.take j) n1).length dE (rwc 3 fev (firesL (L.take j) n1)) ∧ Below u1.heap.size u1 wr) (fun _ vi _ => n - (intOf vi).toNat)
  case atStart => exact ⟨0, none, 0, rfl, Nat.zero_le _, rfl, OwnC.nil_ _ _ _ _ _, Below.refl _ _⟩
  case round =>
    obtain ⟨j, E, dE, rfl, hj, rfl, ho, hb⟩ := hrel
    have HO := Lib.hid ho
    have HBL := Lib.hid hb
    have HX := Lib.hid (HX1.out.step hb)
    clear ho hb
    have x1 : wr.cell? ⟨q, 1, none⟩ = some (.slice B n d) := by rw [HN.out]; exact blk_cell HX.out.blk 1
    have x2 : wr.cell? ⟨q, 2, none⟩ = some (.int .u64 (n1 : Int)) := blk_cell HX.out.blk 2
    have hd1 := HX.out.d1
    have hd2 := HX.out.d2
    rw [← HN.out] at hd1
    by_cases hjn : j < n
    · have j1 : (j : Int) < (n : Int) := by omega
      have j0 : (0 : Int) ≤ (j : Int) := by omega
      have j2 : ((j : Int)).toNat = j := by omega
      have zj : IntKind.i64.wrap ((j : Int) + 1) = (j : Int) + 1 := by rw [IntKind.wrap_i64]; omega
      obtain ⟨t, ht⟩ : ∃ t, L[j]? = some t := ⟨_, List.getElem?_eq_getElem (by rw [← HN.out]; exact hjn)⟩
      obtain ⟨bb, off, rfl, hbb, hc⟩ := HX.out.row ht
      have hc0 : Hid (wr.cell? ⟨bb, off + j * 4, none⟩ = some (.int .i64 (t.i : Int))) := Lib.hid (hc 0 (by omega))
      have hc1 : Hid (wr.cell? ⟨bb, off + j * 4 + 1, none⟩ = some (.int .u64 (t.k : Int))) := Lib.hid (by rw [Nat.add_assoc]; exact hc 1 (by omega))
      have hc3 : Hid (wr.cell? ⟨bb, off + j * 4 + 3, none⟩ = some (.int .u64 (t.what : Int))) := Lib.hid (by rw [Nat.add_assoc]; exact hc 3 (by omega))
      have hat : wr.cell? ⟨bb, off + j * 4 + 2, none⟩ = some (.int .u64 (t.at_ : Int)) := by rw [Nat.add_assoc]; exact hc 2 (by omega)
      have HBB := Lib.hid hbb
      have HFS0 : (L.take (j + 1)).filter (fun t => decide (t.at_ = n1)) = (L.take j).filter (fun t => decide (t.at_ = n1)) ++ [t].filter (fun t => decide (t.at_ = n1)) := by rw [tk_snoc ht, List.filter_append]
      have hfl : (firesL (L.take j) n1).length ≤ 65536 := by
        have h1 : (firesL (L.take j) n1).length ≤ (L.take j).length := List.length_filter_le ..
        rw [List.length_take] at h1
        omega
      have x1s : ∀ V : Stay wr, V.w.cell? ⟨q, 1, none⟩ = some (.slice (some ⟨bb, off, none⟩) n d) := fun V => Stay.cell x1 V
      have x2s : ∀ V : Stay wr, V.w.cell? ⟨q, 2, none⟩ = some (.int .u64 (n1 : Int)) := fun V => Stay.cell x2 V
      have hats : ∀ V : Stay wr, V.w.cell? ⟨bb, off + j * 4 + 2, none⟩ = some (.int .u64 (t.at_ : Int)) := fun V => Stay.cell hat V
      clear hc hbb ht hat
      unfold firesL at HO hfl ⊢
      obtain ⟨me, hme⟩ : ∃ me, me = ((L.take j).filter fun t => decide (t.at_ = n1)).length := ⟨_, rfl⟩
      have HME := Lib.hid hme
      rw [← hme] at HO hfl ⊢
      clear hme
      by_cases hb : t.at_ = n1
      · have k0 : ((t.at_ : Int) == (n1 : Int)) = true := by simp [hb]
        have hfs : [t].filter (fun t => decide (t.at_ = n1)) = [t] := by simp [hb]
        rw [hfs] at HFS0
        have HFS := Lib.hid HFS0
        clear hfs HFS0 hb
        go_upto_region 8 with fail
        refine wp_region_stay (by kernel_rfl) (by kernel_rfl) ?_
        repeat (go_big_quiet_step (fail))
        refine wpQuiet_nil ?_
        intro w' hw'
        obtain ⟨V, rfl⟩ := hw'
        try rw [k0]
        have x1 := x1s V
        have c0 : V.w.cell? ⟨bb, off + j * 4, none⟩ = some (.int .i64 (t.i : Int)) := Stay.cell hc0.out V
        have c1 : V.w.cell? ⟨bb, off + j * 4 + 1, none⟩ = some (.int .u64 (t.k : Int)) := Stay.cell hc1.out V
        have c3 : V.w.cell? ⟨bb, off + j * 4 + 3, none⟩ = some (.int .u64 (t.what : Int)) := Stay.cell hc3.out V
        have HQL2 : Hid (q < V.w.heap.size) := Lib.hid (Nat.lt_of_lt_of_le (lt_heap HX.out.blk) V.below.size)
        have HBB2 : Hid (bb < V.w.heap.size) := Lib.hid (Nat.lt_of_lt_of_le HBB.out V.below.size)
        have HO2 := Lib.hid (HO.out.below V.below)
        have HBV : Hid (Below u1.heap.size u1 V.w) := Lib.hid (HBL.out.trans (V.below.mono HBL.out.size))
        have hbd : ∀ w, (Instr.build 58 #[(0, .agg #[.int .i64 (t.i : Int), .int .u64 (t.k : Int)]), (1, .int .u64 (t.what : Int))]).run Try.prog w = .ok (.agg #[.int .i64 (t.i : Int), .int .u64 (t.k : Int), .int .u64 (t.what : Int)]) w := fun w => by kernel_rfl
        clear x1s x2s x2 hats hc0 hc1 hc3 HBB HO HBL HX k0
        generalize V.w = u2 at *
        go_upto_region 9 with fail
        refine wp_region_grow (C := fun W => Below u2.heap.size u2 W) 19 85 [val (.slice E me dE), val (.pointer (some ⟨q, 0, none⟩)), val (.pointer (some ⟨q, 0, none⟩)), val (.pointer (some ⟨q, 1, none⟩)), val (.slice (some ⟨bb, off, none⟩) n d), val (.int .i64 (j : Int)), val (.pointer (some ⟨bb, off + j * 4, none⟩)), val (.pointer (some ⟨bb, off + j * 4, none⟩)), val (.agg #[.int .i64 (t.i : Int), .int .u64 (t.k : Int)]), val (.pointer (some ⟨q, 0, none⟩)), val (.pointer (some ⟨q, 0, none⟩)), val (.pointer (some ⟨q, 1, none⟩)), val (.slice (some ⟨bb, off, none⟩) n d), val (.int .i64 (j : Int)), val (.pointer (some ⟨bb, off + j * 4, none⟩)), val (.pointer (some ⟨bb, off + j * 4 + 3, none⟩)), val (.int .u64 (t.what : Int)), val (.agg #[.int .i64 (t.i : Int), .int .u64 (t.k : Int), .int .u64 (t.what : Int)]), fun v W => ∃ zb, v = .slice (some ⟨zb, 0, none⟩) 1 1 ∧ W.heap[zb]? = some (.cells #[.int .i64 (t.i : Int), .int .u64 (t.k : Int), .int .u64 (t.what : Int)] 58 (0, 0))] (by kernel_rfl) rfl (by kernel_rfl) rfl ⟨stb_val _, stb_val _, stb_val _, stb_val _, stb_val _, stb_val _, stb_val _, stb_val _, stb_val _, stb_val _, stb_val _, stb_val _, stb_val _, stb_val _, stb_val _, stb_val _, stb_val _, stb_val _, (fun v W W' h hb => by obtain ⟨zb, h1, h2⟩ := h; exact ⟨zb, h1, (hb.block _ (lt_heap h2)).trans h2⟩), trivial⟩ (Below.refl _ _).drew ?_ ?_
        · refine each_cons ?_ ?_
          · intro a W hW hd
            have h4 : a.tmps[4]?.getD undef = .slice E me dE := slot_eq (hd 4 (by decide))
            exact grows_value _ hW (by simp [execOp, Act.eval, h4]) rfl
          refine each_cons ?_ ?_
          · intro a W hW hd
            have h0 : a.tmps[0]?.getD undef = .pointer (some ⟨q, 0, none⟩) := slot_eq (hd 0 (by decide))
            exact grows_value _ hW (by simp [execOp, Act.eval, h0]) rfl
          refine each_cons ?_ ?_
          · intro a W hW hd
            have h42 : a.tmps[42]?.getD undef = .pointer (some ⟨q, 0, none⟩) := slot_eq (hd 42 (by decide))
            refine grows_value _ hW (?_ : _ = _) rfl
            clear hd
            go_simp
          refine each_cons ?_ ?_
          · intro a W hW hd
            have h43 : a.tmps[43]?.getD undef = .pointer (some ⟨q, 0, none⟩) := slot_eq (hd 43 (by decide))
            refine grows_value _ hW (?_ : _ = _) rfl
            clear hd
            go_simp
          refine each_cons ?_ ?_
          · intro a W hW hd
            have h44 : a.tmps[44]?.getD undef = .pointer (some ⟨q, 1, none⟩) := slot_eq (hd 44 (by decide))
            have xx : W.cell? ⟨q, 1, none⟩ = some (.slice (some ⟨bb, off, none⟩) n d) := (hW.cell (p := ⟨q, 1, none⟩) HQL2.out).trans x1
            refine grows_value _ hW (?_ : _ = _) rfl
            clear hd
            go_simp
          refine each_cons ?_ ?_
          · intro a W hW hd
            have h5 : a.tmps[5]?.getD undef = .int .i64 (j : Int) := slot_eq (hd 5 (by decide))
            exact grows_value _ hW (by simp [execOp, Act.eval, h5]) rfl
          refine each_cons ?_ ?_
          · intro a W hW hd
            have h45 : a.tmps[45]?.getD undef = .slice (some ⟨bb, off, none⟩) n d := slot_eq (hd 45 (by decide))
            have h46 : a.tmps[46]?.getD undef = .int .i64 (j : Int) := slot_eq (hd 46 (by decide))
            refine grows_value _ hW (?_ : _ = _) rfl
            clear hd
            go_simp
          refine each_cons ?_ ?_
          · intro a W hW hd
            have h47 : a.tmps[47]?.getD undef = .pointer (some ⟨bb, off + j * 4, none⟩) := slot_eq (hd 47 (by decide))
            refine grows_value _ hW (?_ : _ = _) rfl
            clear hd
            go_simp
          refine each_cons ?_ ?_
          · intro a W hW hd
            have h48 : a.tmps[48]?.getD undef = .pointer (some ⟨bb, off + j * 4, none⟩) := slot_eq (hd 48 (by decide))
            have xx0 : W.cell? ⟨bb, off + j * 4, none⟩ = some (.int .i64 (t.i : Int)) := (hW.cell (p := ⟨bb, off + j * 4, none⟩) HBB2.out).trans c0
            have xx1 : W.cell? ⟨bb, off + j * 4 + 1, none⟩ = some (.int .u64 (t.k : Int)) := (hW.cell (p := ⟨bb, off + j * 4 + 1, none⟩) HBB2.out).trans c1
            refine grows_value _ hW (?_ : _ = _) rfl
            clear hd
            go_simp
          refine each_cons ?_ ?_
          · intro a W hW hd
            have h0 : a.tmps[0]?.getD undef = .pointer (some ⟨q, 0, none⟩) := slot_eq (hd 0 (by decide))
            exact grows_value _ hW (by simp [execOp, Act.eval, h0]) rfl
          refine each_cons ?_ ?_
          · intro a W hW hd
            have h50 : a.tmps[50]?.getD undef = .pointer (some ⟨q, 0, none⟩) := slot_eq (hd 50 (by decide))
            refine grows_value _ hW (?_ : _ = _) rfl
            clear hd
            go_simp
          refine each_cons ?_ ?_
          · intro a W hW hd
            have h51 : a.tmps[51]?.getD undef = .pointer (some ⟨q, 0, none⟩) := slot_eq (hd 51 (by decide))
            refine grows_value _ hW (?_ : _ = _) rfl
            clear hd
            go_simp
          refine each_cons ?_ ?_
          · intro a W hW hd
            have h52 : a.tmps[52]?.getD undef = .pointer (some ⟨q, 1, none⟩) := slot_eq (hd 52 (by decide))
            have xx : W.cell? ⟨q, 1, none⟩ = some (.slice (some ⟨bb, off, none⟩) n d) := (hW.cell (p := ⟨q, 1, none⟩) HQL2.out).trans x1
            refine grows_value _ hW (?_ : _ = _) rfl
            clear hd
            go_simp
          refine each_cons ?_ ?_
          · intro a W hW hd
            have h5 : a.tmps[5]?.getD undef = .int .i64 (j : Int) := slot_eq (hd 5 (by decide))
            exact grows_value _ hW (by simp [execOp, Act.eval, h5]) rfl
          refine each_cons ?_ ?_
          · intro a W hW hd
            have h53 : a.tmps[53]?.getD undef = .slice (some ⟨bb, off, none⟩) n d := slot_eq (hd 53 (by decide))
            have h54 : a.tmps[54]?.getD undef = .int .i64 (j : Int) := slot_eq (hd 54 (by decide))
            refine grows_value _ hW (?_ : _ = _) rfl
            clear hd
            go_simp
          refine each_cons ?_ ?_
          · intro a W hW hd
            have h55 : a.tmps[55]?.getD undef = .pointer (some ⟨bb, off + j * 4, none⟩) := slot_eq (hd 55 (by decide))
            refine grows_value _ hW (?_ : _ = _) rfl
            clear hd
            go_simp
          refine each_cons ?_ ?_
          · intro a W hW hd
            have h56 : a.tmps[56]?.getD undef = .pointer (some ⟨bb, off + j * 4 + 3, none⟩) := slot_eq (hd 56 (by decide))
            have xx : W.cell? ⟨bb, off + j * 4 + 3, none⟩ = some (.int .u64 (t.what : Int)) := (hW.cell (p := ⟨bb, off + j * 4 + 3, none⟩) HBB2.out).trans c3
            refine grows_value _ hW (?_ : _ = _) rfl
            clear hd
            go_simp
          refine each_cons ?_ ?_
          · intro a W hW hd
            have h49 : a.tmps[49]?.getD undef = .agg #[.int .i64 (t.i : Int), .int .u64 (t.k : Int)] := slot_eq (hd 49 (by decide))
            have h57 : a.tmps[57]?.getD undef = .int .u64 (t.what : Int) := slot_eq (hd 57 (by decide))
            refine grows_value _ hW (?_ : _ = _) rfl
            have hb' := hbd W
            clear hd
            simp [execOp, Act.eval, h49, h57, hb']
          refine each_cons ?_ ?_
          · intro a W hW hd
            have h58 : a.tmps[58]?.getD undef = .agg #[.int .i64 (t.i : Int), .int .u64 (t.k : Int), .int .u64 (t.what : Int)] := slot_eq (hd 58 (by decide))
            refine grows_new (w' := W.alloc (.cells #[.int .i64 (t.i : Int), .int .u64 (t.k : Int), .int .u64 (t.what : Int)] 58)) (.slice (some ⟨W.heap.size, 0, none⟩) 1 1) (?_ : _ = _) ⟨W.heap.size, rfl, heap_alloc_new W _⟩ (below_alloc W _) (hW.alloc hW.size _)
            clear hd
            go_simp
          exact each_nil
        · refine behind_val rfl ?_
          refine behind_val rfl ?_
          refine behind_val rfl ?_
          refine behind_val rfl ?_
          refine behind_val rfl ?_
          refine behind_val rfl ?_
          refine behind_val rfl ?_
          refine behind_val rfl ?_
          refine behind_val rfl ?_
          refine behind_val rfl ?_
          refine behind_val rfl ?_
          refine behind_val rfl ?_
          refine behind_val rfl ?_
          refine behind_val rfl ?_
          refine behind_val rfl ?_
          refine behind_val rfl ?_
          refine behind_val rfl ?_
          refine behind_val rfl ?_
          refine behind_cons fun v59 => ?_
          refine behind_nil fun u3 hC3 hF3 => ?_
          obtain ⟨_, zb, rfl, hzb⟩ := hF3
          have HZB := Lib.hid hzb
          have HO3 := Lib.hid (HO2.out.below hC3)
          have HB3 := Lib.hid (HBV.out.trans (hC3.mono HBV.out.size))
          clear hzb hC3 x1 c0 c1 c3 hbd HO2 HBV
          simp only [Act.put, List.setIfInBounds_toArray, List.set_cons_succ, List.set_cons_zero, List.drop_succ_cons, List.drop_zero]
          go_upto_region 7 with (first
            | (at_builtin
               refine wpList_append_vals rfl (.tmp 41) (.tmp 59) 54 rfl u1.heap.size 58 i0 (.agg #[.int .i64 0, .int .u64 0, .int .u64 0]) 3 Try.underlying54 HI0.out HZ0.out HZ1.out rfl (by decide) rfl HO3.out (m := 1) (A' := some ⟨zb, 0, none⟩) (B := u3.heap.size) (g := fun k => (fev t).getD k undef) rfl (.inr ⟨zb, 0, rfl, lt_heap HZB.out, fun k hk => ?_⟩) (fun k hk => fev_one _ k (by omega)) (by unfold maxLen; omega) (by rw [HZ2.out]; omega) HB3.out.size ?_
               · rw [Nat.zero_add, blk_cell HZB.out k]
                 rcases (show k = 0 ∨ k = 1 ∨ k = 2 by omega) with rfl | rfl | rfl <;> rfl
               intro E2 dE2 u4 hown hg _
               have HO4 := Lib.hid hown
               have HB4 := Lib.hid (HB3.out.grown hg HB3.out.size (fun k e => HO3.out.at_ k e))
               clear hown hg HO3 HB3 HZB))
          go_wp2_with fail
          go_roundw
          case rel =>
            refine ⟨j + 1, E2, dE2, by go_num, by omega, by rw [HFS.out, List.length_append, ← HME.out]; rfl, ?_, HB4.out⟩
            rw [HFS.out, List.length_append, ← HME.out]
            refine HO4.out.same fun k hk => ?_
            have e := rwc_snoc (sz := 3) (by decide) fev ((L.take j).filter fun t => decide (t.at_ = n1)) t k (by rw [← HME.out]; exact hk)
            rw [← HME.out] at e
            exact e
          case measure => simp [intOf]; omega
      · have k0 : ((t.at_ : Int) == (n1 : Int)) = false := by simp; omega
        have hfs : [t].filter (fun t => decide (t.at_ = n1)) = [] := by simp [hb]
        rw [hfs, List.append_nil] at HFS0
        have HFS := Lib.hid HFS0
        clear hfs HFS0 hb
        go_upto_region 8 with fail
        refine wp_region_stay (by kernel_rfl) (by kernel_rfl) ?_
        repeat (go_big_quiet_step (fail))
        refine wpQuiet_nil ?_
        intro w' hw'
        obtain ⟨V, rfl⟩ := hw'
        try rw [k0]
        have HO2 := Lib.hid (HO.out.below V.below)
        have HBV : Hid (Below u1.heap.size u1 V.w) := Lib.hid (HBL.out.trans (V.below.mono HBL.out.size))
        clear x1 x1s x2s x2 hats hc0 hc1 hc3 HBB HO HBL HX k0
        generalize V.w = u2 at *
        go_wp2_with fail
        go_roundw
        case rel =>
          refine ⟨j + 1, E, dE, by go_num, by omega, by rw [HFS.out, ← HME.out], ?_, HBV.out⟩
          rw [HFS.out, ← HME.out]
          exact HO2.out
        case measure => simp [intOf]; omega
    · obtain rfl : n = j := by omega
      have e1 : L.take n = L := by rw [HN.out]; exact List.take_length
      have ho := HO.out
      rw [e1] at ho ⊢
      clear e1 hjn HO
      obtain ⟨F, hF⟩ : ∃ F, F = firesL L n1 := ⟨_, rfl⟩
      rw [← hF] at ho HG ⊢
      obtain ⟨m, hm⟩ : ∃ m, m = F.length := ⟨_, rfl⟩
      have HM := Lib.hid hm
      have HML : Hid (m ≤ 65536) := Lib.hid (by
        have h1 : F.length ≤ L.length := by rw [hF]; exact List.length_filter_le ..
        have := HLL.out
        omega)
      rw [← hm] at ho ⊢
      have HNE0 : Hid (∀ k, Value.ownBlock (.slice E m dE) = some k → ¬ G k) := Lib.hid fun k e hk => by
        have h1 := ho.at_ k e
        have h2 := HX1.out.old k hk
        omega
      have HO0 := Lib.hid ho
      have HE0 := Lib.hid (HE1.out.step HBL.out)
      have HFD := Lib.hid hF
      clear hF hm ho HE1 HX1 HBL x2 hd2
      go_wp2_with fail
      clear x1 hd1
      go_loopw [6] (fun vi wr2 => ∃ (j : Nat) (B2 : Option Addr) (d2 : Nat) (G2 : Nat → Prop), vi = .int .i64 (j : Int) ∧ j ≤ m ∧ DX wr2 q r B2 d2 (goneL A ((F.take j).map Tm.i)) (dropAll L (F.take j)) n1 G2 ∧ Ext G G2 w wr2 ∧ OwnC wr2 u1.heap.size 58 3 E m dE (rwc 3 fev F) ∧ ∀ k, Value.ownBlock (.slice E m dE) = some k → ¬ G2 k) (fun vi _ => m - (intOf vi).toNat)
      case atStart => exact ⟨0, B, d, G, rfl, Nat.zero_le _, HX.out, HE0.out, HO0.out, HNE0.out⟩
      case round =>
        obtain ⟨j, B2, d2, G2, rfl, hj, hx, he, ho, hne⟩ := hrel
        clear HX HE0 HO0 HNE0
        have HX := Lib.hid hx
        have HE := Lib.hid he
        have HO := Lib.hid ho
        have HNE := Lib.hid hne
        clear hx he ho hne
        by_cases hjn : j < m
        · have j1 : (j : Int) < (m : Int) := by omega
          have j0 : (0 : Int) ≤ (j : Int) := by omega
          have j2 : ((j : Int)).toNat = j := by omega
          have zj : IntKind.i64.wrap ((j : Int) + 1) = (j : Int) + 1 := by have := HML.out; rw [IntKind.wrap_i64]; omega
          obtain ⟨t, ht⟩ : ∃ t, F[j]? = some t := ⟨_, List.getElem?_eq_getElem (by rw [← HM.out]; exact hjn)⟩
          obtain ⟨g, hE, _, hgl, hgc, _⟩ := HO.out.lies (by omega)
          subst hE
          have c0 : wr.cell? ⟨g, j * 3, none⟩ = some (.int .i64 (t.i : Int)) := by rw [hgc (j * 3) (by omega)]; exact congrArg some (rwc_at (enc := fev) (j := 0) ht (by omega))
          have c1 : wr.cell? ⟨g, j * 3 + 1, none⟩ = some (.int .u64 (t.k : Int)) := by rw [hgc (j * 3 + 1) (by omega)]; exact congrArg some (rwc_at (enc := fev) (j := 1) ht (by omega))
          have HGL := Lib.hid hgl
          have HGQ : Hid (¬ g = q) := Lib.hid fun e => HNE.out g rfl (by rw [e]; exact HX.out.mq)
          obtain ⟨hA, hlv, hA9⟩ := HG.out j t ht
          have HDR := Lib.hid (rdrop HX.out (Nat.le_trans (dropAll_le L _) HLL.out) (t.i : Int) t.k)
          have HFR : Hid (∀ (W : World) (Gw : Nat → Prop) (B3 : Option Addr) (d3 : Nat) (L3 : List Tm), DX W q r B3 d3 (goneL A ((F.take j).map Tm.i)) L3 n1 Gw → Calls Try.prog 50 #[.pointer (some ⟨r, 0, none⟩), .agg #[.int .i64 (t.i : Int), .int .u64 (t.k : Int)]] W fun e w' => e = .returned (.int .i64 0) ∧ ∃ G', DX w' q r B3 d3 ((goneL A ((F.take j).map Tm.i)).gone t.i) L3 n1 G' ∧ Ext Gw G' W w') := Lib.hid fun W Gw B3 d3 L3 hx => hx.arena fun Gr ha => (rfree_any hA ha hA9 (t.i : Int) t.k).mono fun e w' hh => by
            rcases hh with ⟨h1, _⟩ | ⟨h1, he, h2, hk⟩
            · rw [hlv] at h1
              cases h1
            · obtain ⟨_, _, _, _, hx⟩ := ha
              exact ⟨he, _, h2, ⟨fun k g => g, hk.mono fun k _ e => by rw [e]; exact hx.mem⟩⟩
          have HGN : Hid (goneL A ((F.take (j + 1)).map Tm.i) = (goneL A ((F.take j).map Tm.i)).gone t.i) := Lib.hid (by rw [tk_snoc ht, List.map_append]; exact goneL_snoc ..)
          have HDN : Hid (dropAll L (F.take (j + 1)) = Wh.drop (dropAll L (F.take j)) (t.i : Int) t.k) := Lib.hid (by rw [tk_snoc ht]; exact dropAll_snoc ..)
          clear ht hgl hgc hA hlv hA9
          generalize goneL A ((F.take j).map Tm.i) = Aj at *
          generalize dropAll L (F.take j) = Lj at *
          go_upto_region 14 with (first
            | (refine wpList_load_mid rfl 46 (.tmp 71) rfl g (j * 3) rfl [.int .i64 (t.i : Int), .int .u64 (t.k : Int)] _ (rng_two c0 c1) Try.underlying46 rfl (by kernel_rfl) ?_)
            | (go_at_call 48
               refine HDR.out.mono ?_
               rintro e u5 ⟨he, D5, dd5, _, hq5, ho5, hk5⟩
               subst he
               have hset := HX.out.setRow_ hk5 hq5 ho5
               have hob := own_beside HO.out HNE.out hset.2
               have HX5 := Lib.hid hset.1
               have HE5 := Lib.hid (HE.out.trans hset.2)
               have HO5 := Lib.hid hob.1
               have HNE5 := Lib.hid hob.2
               have c0 : u5.cell? ⟨g, j * 3, none⟩ = some (.int .i64 (t.i : Int)) := (hk5.cell (p := ⟨g, j * 3, none⟩) HGL.out HGQ.out).trans c0
               have c1 : u5.cell? ⟨g, j * 3 + 1, none⟩ = some (.int .u64 (t.k : Int)) := (hk5.cell (p := ⟨g, j * 3 + 1, none⟩) HGL.out HGQ.out).trans c1
               have HGL5 : Hid (g < u5.heap.size) := Lib.hid (Nat.lt_of_lt_of_le HGL.out hk5.size)
               clear hset hob hq5 ho5 hk5 HX HE HO HNE HGL HGQ HDR))
          have x0 : u5.cell? ⟨q, 0, none⟩ = some (.pointer (some ⟨r, 0, none⟩)) := blk_cell HX5.out.blk 0
          have HQL5 : Hid (q < u5.heap.size) := Lib.hid (lt_heap HX5.out.blk)
          refine wp_region_grow (C := fun W => Below u5.heap.size u5 W) 9 85 [val (.pointer (some ⟨q, 0, none⟩)), val (.pointer (some ⟨q, 0, none⟩)), val (.pointer (some ⟨q, 0, none⟩)), val (.pointer (some ⟨r, 0, none⟩)), val (.slice (some ⟨g, 0, none⟩) m dE), val (.int .i64 (j : Int)), val (.pointer (some ⟨g, j * 3, none⟩)), val (.pointer (some ⟨g, j * 3, none⟩)), val (.agg #[.int .i64 (t.i : Int), .int .u64 (t.k : Int)])] (by kernel_rfl) rfl (by kernel_rfl) rfl ⟨stb_val _, stb_val _, stb_val _, stb_val _, stb_val _, stb_val _, stb_val _, stb_val _, stb_val _, trivial⟩ (Below.refl _ _).drew ?_ ?_
          · refine each_cons ?_ ?_
            · intro a W hW hd
              have h0 : a.tmps[0]?.getD undef = .pointer (some ⟨q, 0, none⟩) := slot_eq (hd 0 (by decide))
              exact grows_value _ hW (by simp [execOp, Act.eval, h0]) rfl
            refine each_cons ?_ ?_
            · intro a W hW hd
              have h74 : a.tmps[74]?.getD undef = .pointer (some ⟨q, 0, none⟩) := slot_eq (hd 74 (by decide))
              refine grows_value _ hW (?_ : _ = _) rfl
              clear hd
              go_simp
            refine each_cons ?_ ?_
            · intro a W hW hd
              have h75 : a.tmps[75]?.getD undef = .pointer (some ⟨q, 0, none⟩) := slot_eq (hd 75 (by decide))
              refine grows_value _ hW (?_ : _ = _) rfl
              clear hd
              go_simp
            refine each_cons ?_ ?_
            · intro a W hW hd
              have h76 : a.tmps[76]?.getD undef = .pointer (some ⟨q, 0, none⟩) := slot_eq (hd 76 (by decide))
              have xx : W.cell? ⟨q, 0, none⟩ = some (.pointer (some ⟨r, 0, none⟩)) := (hW.cell (p := ⟨q, 0, none⟩) HQL5.out).trans x0
              refine grows_value _ hW (?_ : _ = _) rfl
              clear hd
              go_simp
            refine each_cons ?_ ?_
            · intro a W hW hd
              have h4 : a.tmps[4]?.getD undef = .slice (some ⟨g, 0, none⟩) m dE := slot_eq (hd 4 (by decide))
              exact grows_value _ hW (by simp [execOp, Act.eval, h4]) rfl
            refine each_cons ?_ ?_
            · intro a W hW hd
              have h6 : a.tmps[6]?.getD undef = .int .i64 (j : Int) := slot_eq (hd 6 (by decide))
              exact grows_value _ hW (by simp [execOp, Act.eval, h6]) rfl
            refine each_cons ?_ ?_
            · intro a W hW hd
              have h78 : a.tmps[78]?.getD undef = .slice (some ⟨g, 0, none⟩) m dE := slot_eq (hd 78 (by decide))
              have h79 : a.tmps[79]?.getD undef = .int .i64 (j : Int) := slot_eq (hd 79 (by decide))
              refine grows_value _ hW (?_ : _ = _) rfl
              clear hd
              go_simp
            refine each_cons ?_ ?_
            · intro a W hW hd
              have h80 : a.tmps[80]?.getD undef = .pointer (some ⟨g, j * 3, none⟩) := slot_eq (hd 80 (by decide))
              refine grows_value _ hW (?_ : _ = _) rfl
              clear hd
              go_simp
            refine each_cons ?_ ?_
            · intro a W hW hd
              have h81 : a.tmps[81]?.getD undef = .pointer (some ⟨g, j * 3, none⟩) := slot_eq (hd 81 (by decide))
              have xx0 : W.cell? ⟨g, j * 3, none⟩ = some (.int .i64 (t.i : Int)) := (hW.cell (p := ⟨g, j * 3, none⟩) HGL5.out).trans c0
              have xx1 : W.cell? ⟨g, j * 3 + 1, none⟩ = some (.int .u64 (t.k : Int)) := (hW.cell (p := ⟨g, j * 3 + 1, none⟩) HGL5.out).trans c1
              refine grows_value _ hW (?_ : _ = _) rfl
              clear hd
              go_simp
            exact each_nil
          · refine behind_val rfl ?_
            refine behind_val rfl ?_
            refine behind_val rfl ?_
            refine behind_val rfl ?_
            refine behind_val rfl ?_
            refine behind_val rfl ?_
            refine behind_val rfl ?_
            refine behind_val rfl ?_
            refine behind_val rfl ?_
            refine behind_nil fun u6 hC6 hF6 => ?_
            clear hF6
            have HX6 := Lib.hid (HX5.out.keep (Kept.of_below hC6 fun _ => False) fun _ _ q => q)
            have HE6 := Lib.hid (HE5.out.step hC6)
            have HO6 := Lib.hid (HO5.out.below hC6)
            clear hC6 x0 c0 c1 HX5 HE5 HO5
            simp only [Act.put, List.setIfInBounds_toArray, List.set_cons_succ, List.set_cons_zero, List.drop_succ_cons, List.drop_zero]
            go_upto_region 12 with (first
              | (go_at_call 50
                 refine (HFR.out _ _ _ _ _ HX6.out).mono ?_
                 rintro e u7 ⟨rfl, F7, hx7, he7⟩
                 have ho7 := own_beside HO6.out HNE5.out he7
                 have HX7 := Lib.hid hx7
                 have HE7 := Lib.hid (HE6.out.trans he7)
                 have HO7 := Lib.hid ho7.1
                 have HN7 := Lib.hid ho7.2
                 clear hx7 he7 ho7 HX6 HE6 HO6 HNE5 HFR))
            go_wp2_with fail
            go_roundw
            case rel =>
              refine ⟨j + 1, D5, dd5, F7, by go_num, by omega, ?_, HE7.out, HO7.out, HN7.out⟩
              have h9 := HX7.out
              rw [HGN.out, HDN.out]
              exact h9
            case measure => simp [intOf]; omega
        · obtain rfl : m = j := by omega
          have e1 : F.take m = F := by rw [HM.out]; exact List.take_length
          have h9 := HX.out
          rw [e1] at h9
          have HX9 := Lib.hid h9
          clear h9 e1 HX
          go_wp2_with fail
          go_ret2
          rw [← HFD.out, ← HM.out]
          exact ⟨E, dE, rfl, by rw [← HS1.out]; exact HO.out, B2, d2, G2, HX9.out, HE.out⟩
end
end Go.Proofs.Ytkmakdhlaenaoaa
