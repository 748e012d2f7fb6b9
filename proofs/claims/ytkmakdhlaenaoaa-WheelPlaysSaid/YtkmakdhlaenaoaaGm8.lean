import Derived.Test.YtkmakdhlaenaoaaGm7
/- Stage 9: the document's Free. -/
namespace Go.Proofs.Ytkmakdhlaenaoaa
set_option maxRecDepth 100000
open Go.RowKit
/-- How far region 5 of Free has come. -/
structure FrR (u : World) (q i m : Nat) (fr : Nat → Nat) (b1 b6 b9 b10 b13 : Bool) (z : Nat) (A1 : Option Addr) (d1 z4 : Nat) (A2 : Option Addr) (d2 : Nat) (W : World) : Prop where
  below : b13 = false → Below u.heap.size u W
  one : b1 = true → b6 = false → OwnC W u.heap.size 3 1 (some ⟨z, 0, none⟩) 0 0 (fun _ => .int .i64 0) ∧ W.heap[z]? = some (.cells #[] 3 (0, 0))
  six : b6 = true → b10 = false → OwnC W u.heap.size 3 1 A1 m d1 (fun k => .int .i64 (fr k : Int))
  nine : b9 = true → b10 = false → u.heap.size ≤ z4 ∧ W.heap[z4]? = some (.cells #[.int .i64 (i : Int)] 3 (0, 0))
  ten : b10 = true → b13 = false → OwnC W u.heap.size 3 1 A2 (m + 1) d2 (catV m (fun k => .int .i64 (fr k : Int)) fun _ => .int .i64 (i : Int))
  sixs : b6 = true → b1 = true
  tens : b10 = true → b6 = true ∧ b9 = true
  end_ : b13 = true → ∃ W0, W = W0.setCell ⟨q, 1, none⟩ (.slice A2 (m + 1) d2) ∧ Below u.heap.size u W0 ∧ OwnC W0 u.heap.size 3 1 A2 (m + 1) d2 (catV m (fun k => .int .i64 (fr k : Int)) fun _ => .int .i64 (i : Int))
section
variable {u : World} {q i m : Nat} {fr : Nat → Nat} {b1 b6 b9 b10 b13 : Bool} {z : Nat} {A1 : Option Addr} {d1 z4 : Nat} {A2 : Option Addr} {d2 : Nat} {W : World}
theorem FrR.start (u : World) (q i m : Nat) (fr : Nat → Nat) (z : Nat) (A1 : Option Addr) (d1 z4 : Nat) (A2 : Option Addr) (d2 : Nat) : FrR u q i m fr false false false false false z A1 d1 z4 A2 d2 u.drew :=
  ⟨fun _ => (Below.refl _ _).drew, (fun h => nomatch h), (fun h => nomatch h), (fun h => nomatch h), (fun h => nomatch h), (fun h => nomatch h), (fun h => nomatch h), (fun h => nomatch h)⟩
theorem FrR.s1 (h : FrR u q i m fr b1 b6 b9 b10 b13 z A1 d1 z4 A2 d2 W) (n1 : b1 = false) (n13 : b13 = false) : FrR u q i m fr true b6 b9 b10 b13 W.heap.size A1 d1 z4 A2 d2 (W.alloc (.cells #[] 3)) := by
  have n6 : b6 = false := by
    cases hc : b6 with
    | false => rfl
    | true => have := h.sixs hc; rw [n1] at this; cases this
  have n10 : b10 = false := by
    cases hc : b10 with
    | false => rfl
    | true => have := (h.tens hc).1; rw [n6] at this; cases this
  have hb := h.below n13
  subst n1 n13 n6 n10
  exact ⟨fun _ => hb.alloc hb.size _, fun _ _ => ⟨OwnC.fresh W _ _ rfl hb.size _ _ _, heap_alloc_new W _⟩, (fun h => nomatch h), fun h9 _ => ⟨(h.nine h9 rfl).1, blk_old (h.nine h9 rfl).2 _⟩, (fun h => nomatch h), (fun h => nomatch h), (fun h => nomatch h), (fun h => nomatch h)⟩
theorem FrR.s6_ (h : FrR u q i m fr b1 b6 b9 b10 b13 z A1 d1 z4 A2 d2 W) (y1 : b1 = true) (n6 : b6 = false) (n13 : b13 = false) {A3 : Option Addr} {d3 : Nat} {w3 : World} {g : Nat → Value} (ho : OwnC w3 u.heap.size 3 1 A3 m d3 (catV (0 * 1) g (fun k => .int .i64 (fr k : Int)))) (hg : W.grownBy w3 (Value.ownBlock (.slice (some ⟨z, 0, none⟩) 0 0))) : FrR u q i m fr b1 true b9 b10 b13 z A3 d3 z4 A2 d2 w3 := by
  have n10 : b10 = false := by
    cases hc : b10 with
    | false => rfl
    | true => have := (h.tens hc).1; rw [n6] at this; cases this
  have hb := h.below n13
  obtain ⟨ho1, hz1⟩ := h.one y1 n6
  subst y1 n13 n6 n10
  refine ⟨fun _ => hb.grown hg hb.size fun k hk => ho1.at_ k hk, (fun _ h => nomatch h), fun _ _ => ho.same fun k _ => ?_, fun h9 _ => ⟨(h.nine h9 rfl).1, ?_⟩, (fun h => nomatch h), fun _ => rfl, (fun h => nomatch h), (fun h => nomatch h)⟩
  · unfold catV
    rw [if_neg (by omega)]
    rfl
  · have h4 := (h.nine h9 rfl).2
    refine (hg.block z4 (lt_heap h4) fun e => ?_).trans h4
    have e : some z4 = some z := e
    injection e with e
    subst e
    rw [hz1] at h4
    injection h4 with h4
    injection h4 with h4
    simp at h4
theorem FrR.s9_ (h : FrR u q i m fr b1 b6 b9 b10 b13 z A1 d1 z4 A2 d2 W) (n9 : b9 = false) (n13 : b13 = false) : FrR u q i m fr b1 b6 true b10 b13 z A1 d1 W.heap.size A2 d2 (W.alloc (.cells #[.int .i64 (i : Int)] 3)) := by
  have n10 : b10 = false := by
    cases hc : b10 with
    | false => rfl
    | true => have := (h.tens hc).2; rw [n9] at this; cases this
  have hb := h.below n13
  subst n9 n13 n10
  exact ⟨fun _ => hb.alloc hb.size _, fun y1 n6 => ⟨(h.one y1 n6).1.alloc _, blk_old (h.one y1 n6).2 _⟩, fun y6 _ => (h.six y6 rfl).alloc _, fun _ _ => ⟨hb.size, heap_alloc_new W _⟩, (fun h => nomatch h), h.sixs, (fun h => nomatch h), (fun h => nomatch h)⟩
theorem FrR.s10_ (h : FrR u q i m fr b1 b6 b9 b10 b13 z A1 d1 z4 A2 d2 W) (y6 : b6 = true) (y9 : b9 = true) (n10 : b10 = false) (n13 : b13 = false) {A3 : Option Addr} {d3 : Nat} {w3 : World} (ho : OwnC w3 u.heap.size 3 1 A3 (m + 1) d3 (catV m (fun k => .int .i64 (fr k : Int)) fun _ => .int .i64 (i : Int))) (hg : W.grownBy w3 (Value.ownBlock (.slice A1 m d1))) : FrR u q i m fr b1 b6 b9 true b13 z A1 d1 z4 A3 d3 w3 := by
  have hb := h.below n13
  have ho6 := h.six y6 n10
  have y1 := h.sixs y6
  subst y6 y9 n10 n13 y1
  exact ⟨fun _ => hb.grown hg hb.size fun k hk => ho6.at_ k hk, (fun _ h => nomatch h), (fun _ h => nomatch h), (fun _ h => nomatch h), fun _ _ => ho, fun _ => rfl, fun _ => ⟨rfl, rfl⟩, (fun h => nomatch h)⟩
theorem FrR.s13 (h : FrR u q i m fr b1 b6 b9 b10 b13 z A1 d1 z4 A2 d2 W) (y10 : b10 = true) (n13 : b13 = false) : FrR u q i m fr b1 b6 b9 b10 true z A1 d1 z4 A2 d2 (W.setCell ⟨q, 1, none⟩ (.slice A2 (m + 1) d2)) := by
  have hb := h.below n13
  have ho := h.ten y10 n13
  obtain ⟨y6, y9⟩ := h.tens y10
  have y1 := h.sixs y6
  subst y10 n13 y6 y9 y1
  exact ⟨(fun h => nomatch h), (fun _ h => nomatch h), (fun _ h => nomatch h), (fun _ h => nomatch h), (fun _ h => nomatch h), fun _ => rfl, fun _ => ⟨rfl, rfl⟩, fun _ => ⟨W, rfl, hb, ho⟩⟩
end
theorem getD_ff {l : Array Bool} {k : Nat} (h : l.getD k true = false) : l.getD k false = false := by
  rw [Array.getD_eq_getD_getElem?] at h ⊢
  cases hd : l[k]? with
  | none => rfl
  | some b => rw [hd] at h; simpa using h
theorem n13_of {l : Array Bool} {i : Nat} (hn : l.getD i true = false) (hD : l.getD 13 false = true → ∀ j, j ≤ 10 → l.getD j false = true) (hi : i ≤ 10) : l.getD 13 false = false := by
  cases hc : l.getD 13 false with
  | false => rfl
  | true =>
    have := hD hc i hi
    rw [getD_ff hn] at this
    cases this
theorem dkeep {l : Array Bool} {i : Nat} (h13 : 13 ≠ i) (hn : l.getD i true = false) (hD : l.getD 13 false = true → ∀ j, j ≤ 10 → l.getD j false = true) : (l.setIfInBounds i true).getD 13 false = true → ∀ j, j ≤ 10 → (l.setIfInBounds i true).getD j false = true := by
  intro h j hj
  rw [getD_set h13] at h
  by_cases e : j = i
  · subst e
    exact getD_set_self hn
  · rw [getD_set e]
    exact hD h j hj
set_option maxHeartbeats 1000000 in
theorem rfreeX_no (q : Nat) (A : Option Addr) (n c : Nat) (B : Option Addr) (m d S : Nat) (ha fr : Nat → Nat) (G : Nat → Prop) (i : Int) (k : Nat) (w : World) (h : RX w q A n c B m d S ha fr G)
    (hW : ∀ W, RX W q A n c B m d S ha fr G → Calls Try.prog 46 #[.pointer (some ⟨q, 0, none⟩), .agg #[.int .i64 i, .int .u64 (k : Int)]] W fun e w' => e = .returned (.bool false) ∧ Below W.heap.size W w') :
    Calls Try.prog 50 #[.pointer (some ⟨q, 0, none⟩), .agg #[.int .i64 i, .int .u64 (k : Int)]] w fun e w' => e = .returned (.int .i64 14) ∧ Below w.heap.size w w' := by
  have HX0 := Lib.hid h
  have HW := Lib.hid hW
  have HWQ : Hid (q < w.heap.size) := Lib.hid (h.old q h.mem)
  have HX1 := Lib.hid (h.step (below_alloc w (.cells #[.int .i64 i, .int .u64 (k : Int)] 46)))
  have HR1 : Hid ((w.alloc (.cells #[.int .i64 i, .int .u64 (k : Int)] 46)).heap[w.heap.size]? = some (.cells #[.int .i64 i, .int .u64 (k : Int)] 46 (0, 0))) := Lib.hid (heap_alloc_new w _)
  have HB1 : Hid (Below w.heap.size w (w.alloc (.cells #[.int .i64 i, .int .u64 (k : Int)] 46))) := Lib.hid (below_alloc w _)
  clear h hW
  obtain ⟨r, hr⟩ : ∃ r, r = w.heap.size := ⟨_, rfl⟩
  have HRW := Lib.hid hr
  rw [← hr] at HR1
  go_enter Try.func50, Try.ntmps50
  go_upto_region 1 with fail
  change Code.wp _ _ _ _ (w.alloc (.cells #[.int .i64 i, .int .u64 (k : Int)] 46))
  rw [← hr]
  clear hr
  generalize w.alloc (.cells #[.int .i64 i, .int .u64 (k : Int)] 46) = u1 at *
  go_wp2_with (first
    | (refine wpList_load_row rfl 46 (.tmp 3) rfl r rfl 46 #[.int .i64 i, .int .u64 (k : Int)] (0, 0) _ HR1.out Try.underlying46 rfl (by kernel_rfl) ?_))
  go_at_call 46
  refine (HW.out u1 HX1.out).mono ?_
  rintro e u2 ⟨rfl, hb⟩
  have HB2 := Lib.hid (HB1.out.trans (hb.mono HB1.out.size))
  have HX2 := Lib.hid (HX1.out.step hb)
  have HR2 : Hid (u2.heap[r]? = some (.cells #[.int .i64 i, .int .u64 (k : Int)] 46 (0, 0))) := Lib.hid ((hb.block _ (lt_heap HR1.out)).trans HR1.out)
  clear hb HX1 HW HR1 HB1
  go_wp2_with fail
  go_ret
  exact ⟨rfl, HB2.out⟩
set_option maxHeartbeats 4000000 in
theorem rfreeX_any (q : Nat) (A : Option Addr) (n c : Nat) (B : Option Addr) (m d S : Nat) (ha fr : Nat → Nat) (G : Nat → Prop) (hn : n ≤ 65536) (hm : m ≤ 65536) (i : Nat) (k : Nat) (hi : i < n) (w : World) (h : RX w q A n c B m d S ha fr G)
    (hW : ∀ W, RX W q A n c B m d S ha fr G → Calls Try.prog 46 #[.pointer (some ⟨q, 0, none⟩), .agg #[.int .i64 (i : Int), .int .u64 (k : Int)]] W fun e w' => e = .returned (.bool true) ∧ Below W.heap.size W w') :
    Calls Try.prog 50 #[.pointer (some ⟨q, 0, none⟩), .agg #[.int .i64 (i : Int), .int .u64 (k : Int)]] w fun e w' => e = .returned (.int .i64 0) ∧ (∃ A2 c2 B2 d2, RX w' q A2 n c2 B2 (m + 1) d2 S (fun j => if j = i then 0 else ha j) (fun k => if k < m then fr k else i) (fun k => G k ∨ w.heap.size ≤ k ∧ k < w'.heap.size)) ∧ Kept (fun k => k = q) w w' := by
  obtain ⟨i0, hi0, hz0, hz1, hz2⟩ := info_parts Try.infoU
  have HI0 := Lib.hid hi0
  have HZ0 := Lib.hid hz0
  have HZ1 := Lib.hid hz1
  have HZ2 := Lib.hid hz2
  obtain ⟨j0, hj0, hy0, hy1, hy2⟩ := info_parts Try.infoI
  have HJ0 := Lib.hid hj0
  have HY0 := Lib.hid hy0
  have HY1 := Lib.hid hy1
  have HY2 := Lib.hid hy2
  clear hi0 hz0 hz1 hz2 hj0 hy0 hy1 hy2
  have HX0 := Lib.hid h
  have HW := Lib.hid hW
  have HWQ : Hid (q < w.heap.size) := Lib.hid (h.old q h.mem)
  have HX1 := Lib.hid (h.step (below_alloc w (.cells #[.int .i64 (i : Int), .int .u64 (k : Int)] 46)))
  have HR1 : Hid ((w.alloc (.cells #[.int .i64 (i : Int), .int .u64 (k : Int)] 46)).heap[w.heap.size]? = some (.cells #[.int .i64 (i : Int), .int .u64 (k : Int)] 46 (0, 0))) := Lib.hid (heap_alloc_new w _)
  have HB1 : Hid (Below w.heap.size w (w.alloc (.cells #[.int .i64 (i : Int), .int .u64 (k : Int)] 46))) := Lib.hid (below_alloc w _)
  clear h hW
  obtain ⟨r, hr⟩ : ∃ r, r = w.heap.size := ⟨_, rfl⟩
  have HRW := Lib.hid hr
  rw [← hr] at HR1
  go_enter Try.func50, Try.ntmps50
  go_upto_region 1 with fail
  change Code.wp _ _ _ _ (w.alloc (.cells #[.int .i64 (i : Int), .int .u64 (k : Int)] 46))
  rw [← hr]
  clear hr
  generalize w.alloc (.cells #[.int .i64 (i : Int), .int .u64 (k : Int)] 46) = u1 at *
  go_wp2_with (first
    | (refine wpList_load_row rfl 46 (.tmp 3) rfl r rfl 46 #[.int .i64 (i : Int), .int .u64 (k : Int)] (0, 0) _ HR1.out Try.underlying46 rfl (by kernel_rfl) ?_))
  go_at_call 46
  refine (HW.out u1 HX1.out).mono ?_
  rintro e u2 ⟨rfl, hb⟩
  have HB2 := Lib.hid (HB1.out.trans (hb.mono HB1.out.size))
  have HX2 := Lib.hid (HX1.out.step hb)
  have HR2 : Hid (u2.heap[r]? = some (.cells #[.int .i64 (i : Int), .int .u64 (k : Int)] 46 (0, 0))) := Lib.hid ((hb.block _ (lt_heap HR1.out)).trans HR1.out)
  clear hb HX1 HW HR1 HB1
  have HQ2 : Hid (u2.heap[q]? = some (.cells #[.slice A n c, .slice B m d, .int .u64 (S : Int)] 105 (0, 0))) := Lib.hid HX2.out.blk
  have HQL2 : Hid (q < u2.heap.size) := Lib.hid (lt_heap HQ2.out)
  have HRL2 : Hid (r < u2.heap.size) := Lib.hid (lt_heap HR2.out)
  have HRQ : Hid (q < r) := Lib.hid (by rw [HRW.out]; exact HWQ.out)
  go_upto_region 3 with fail
  have x0 : u2.cell? ⟨q, 0, none⟩ = some (.slice A n c) := blk_cell HQ2.out 0
  have x0n : (u2.alloc (.cells #[] 22)).cell? ⟨q, 0, none⟩ = some (.slice A n c) := blk_cell (blk_old HQ2.out _) 0
  have HO4 : Hid (OwnC (u2.alloc (.cells #[] 22)) u2.heap.size 22 1 (some ⟨u2.heap.size, 0, none⟩) 0 0 (fun _ => .int .u64 0)) := OwnC.fresh u2 _ _ rfl (Nat.le_refl _) _ _ _
  have HA4 : Hid (RdG (u2.alloc (.cells #[] 22)) (GQ G q) A n (fun k => .int .u64 (ha k : Int))) := Lib.hid (HX2.out.has.keep (Kept.of_below (below_alloc u2 _) fun _ => False) fun k h e => e)
  have hA4 : RdC (u2.alloc (.cells #[] 22)) (u2.alloc (.cells #[] 22)).heap.size A (n * 1) (fun k => .int .u64 (ha k : Int)) := by
    rw [Nat.mul_one]
    exact HA4.out.rdc
  have HA4c := Lib.hid hA4
  clear hA4 HA4
  go_upto_region 4 with (first
    | (at_builtin
       refine wpList_append_vals rfl (.tmp 10) (.tmp 14) 103 rfl u2.heap.size 22 i0 (.int .u64 0) 1 Try.underlying103 HI0.out HZ0.out HZ1.out rfl (by decide) rfl HO4.out rfl HA4c.out (fun _ _ => rfl) (by unfold maxLen; omega) (by rw [HZ2.out]; omega) (alloc_le u2 _) ?_
       intro A2 c2 u5 hown5 hg5 _
       have HO5 : Hid (OwnC u5 u2.heap.size 22 1 A2 n c2 (fun k => .int .u64 (ha k : Int))) := Lib.hid (by
         rw [Nat.zero_add] at hown5
         exact hown5.same fun k _ => by unfold catV; rw [if_neg (by omega)]; rfl)
       have HB5 : Hid (Below u2.heap.size u2 u5) := Lib.hid ((below_alloc u2 _).grown hg5 (alloc_le u2 _) fun k hk => HO4.out.at_ k hk)
       rw [Nat.zero_add]
       have x05 : u5.cell? ⟨q, 0, none⟩ = some (.slice A n c) := blk_cell ((HB5.out.block _ (lt_heap HQ2.out)).trans HQ2.out) 0
       have y05 := blk_free ((HB5.out.block _ (lt_heap HQ2.out)).trans HQ2.out) 0
       clear hown5 hg5))
  obtain ⟨g2, hg2, hgb, hgl, hgc, hgf⟩ := HO5.out.lies (by omega)
  subst hg2
  have HG2u : Hid (u2.heap.size ≤ g2) := hgb
  have HCC : Hid (n ≤ c2 ∧ c2 ≤ 9223372036854775807) := Lib.hid ⟨HO5.out.cap, by have := HO5.out.cap_le; unfold maxLen at this; omega⟩
  have hne : ∀ g, (some (⟨g2, 0, none⟩ : Addr)) = some ⟨g, 0, none⟩ → g ≠ q := fun g h => by
    injection h with h
    injection h with h
    have := lt_heap HQ2.out
    omega
  have HO6 : Hid (OwnC (u5.setCell ⟨q, 0, none⟩ (.slice (some ⟨g2, 0, none⟩) n c2)) u2.heap.size 22 1 (some ⟨g2, 0, none⟩) n c2 (fun k => .int .u64 (ha k : Int))) := Lib.hid (HO5.out.beside q hne (fun k hk => Below.heap_setCell u5 ⟨q, 0, none⟩ _ k hk))
  have HQ6 : Hid ((u5.setCell ⟨q, 0, none⟩ (.slice (some ⟨g2, 0, none⟩) n c2)).heap[q]? = some (.cells #[.slice (some ⟨g2, 0, none⟩) n c2, .slice B m d, .int .u64 (S : Int)] 105 (0, 0))) := Lib.hid (blk_set ((HB5.out.block _ (lt_heap HQ2.out)).trans HQ2.out) 0 _)
  have HK6 : Hid (Kept (fun k => k = q) u2 (u5.setCell ⟨q, 0, none⟩ (.slice (some ⟨g2, 0, none⟩) n c2))) := Lib.hid (((Kept.refl (fun k => k = q) u2).step HB5.out).setCell (p := ⟨q, 0, none⟩) (.inl rfl) _)
  clear hgb hgl hgc hgf hne x05 y05 x0 x0n HO4 HA4c HQ2 HB5 HO5
  generalize u5.setCell ⟨q, 0, none⟩ (.slice (some ⟨g2, 0, none⟩) n c2) = u6 at *
  have HR6 : Hid (u6.heap[r]? = some (.cells #[.int .i64 (i : Int), .int .u64 (k : Int)] 46 (0, 0))) := Lib.hid ((HK6.out.block r HRL2.out (fun e => absurd (show r = q from e) (by have := HRQ.out; omega))).trans HR2.out)
  have HQL : Hid (q < u6.heap.size) := Lib.hid (lt_heap HQ6.out)
  have HRL : Hid (r < u6.heap.size) := Lib.hid (lt_heap HR6.out)
  have x0 : u6.cell? ⟨q, 0, none⟩ = some (.slice (some ⟨g2, 0, none⟩) n c2) := blk_cell HQ6.out 0
  have xr : u6.cell? ⟨r, 0, none⟩ = some (.int .i64 (i : Int)) := blk_cell HR6.out 0
  have i0' : (0 : Int) ≤ (i : Int) := by omega
  have i1' : (i : Int) < (n : Int) := by omega
  have i2' : ((i : Int)).toNat = i := by omega
  refine wp_region_grow (C := fun W => Below u6.heap.size u6 W) 7 38 [val (.pointer (some ⟨q, 0, none⟩)), val (.pointer (some ⟨q, 0, none⟩)), val (.pointer (some ⟨q, 0, none⟩)), val (.slice (some ⟨g2, 0, none⟩) n c2), val (.pointer (some ⟨r, 0, none⟩)), val (.int .i64 (i : Int)), val (.pointer (some ⟨g2, i, none⟩))] (by kernel_rfl) rfl (by kernel_rfl) rfl ⟨stb_val _, stb_val _, stb_val _, stb_val _, stb_val _, stb_val _, stb_val _, trivial⟩ (Below.refl _ _).drew ?_ ?_
  · refine each_cons ?_ ?_
    · intro a W hW hd
      have h0 : a.tmps[0]?.getD undef = .pointer (some ⟨q, 0, none⟩) := slot_eq (hd 0 (by decide))
      exact grows_value _ hW (by simp [execOp, Act.eval, h0]) rfl
    refine each_cons ?_ ?_
    · intro a W hW hd
      have h18 : a.tmps[18]?.getD undef = .pointer (some ⟨q, 0, none⟩) := slot_eq (hd 18 (by decide))
      refine grows_value _ hW (?_ : _ = _) rfl
      clear hd
      go_simp
    refine each_cons ?_ ?_
    · intro a W hW hd
      have h19 : a.tmps[19]?.getD undef = .pointer (some ⟨q, 0, none⟩) := slot_eq (hd 19 (by decide))
      refine grows_value _ hW (?_ : _ = _) rfl
      clear hd
      go_simp
    refine each_cons ?_ ?_
    · intro a W hW hd
      have h20 : a.tmps[20]?.getD undef = .pointer (some ⟨q, 0, none⟩) := slot_eq (hd 20 (by decide))
      have xx : W.cell? ⟨q, 0, none⟩ = some (.slice (some ⟨g2, 0, none⟩) n c2) := (hW.cell (p := ⟨q, 0, none⟩) HQL.out).trans x0
      refine grows_value _ hW (?_ : _ = _) rfl
      clear hd
      go_simp
    refine each_cons ?_ ?_
    · intro a W hW hd
      have h3 : a.tmps[3]?.getD undef = .pointer (some ⟨r, 0, none⟩) := slot_eq (hd 3 (by decide))
      refine grows_value _ hW (?_ : _ = _) rfl
      clear hd
      go_simp
    refine each_cons ?_ ?_
    · intro a W hW hd
      have h22 : a.tmps[22]?.getD undef = .pointer (some ⟨r, 0, none⟩) := slot_eq (hd 22 (by decide))
      have xx : W.cell? ⟨r, 0, none⟩ = some (.int .i64 (i : Int)) := (hW.cell (p := ⟨r, 0, none⟩) HRL.out).trans xr
      refine grows_value _ hW (?_ : _ = _) rfl
      clear hd
      go_simp
    refine each_cons ?_ ?_
    · intro a W hW hd
      have h21 : a.tmps[21]?.getD undef = .slice (some ⟨g2, 0, none⟩) n c2 := slot_eq (hd 21 (by decide))
      have h23 : a.tmps[23]?.getD undef = .int .i64 (i : Int) := slot_eq (hd 23 (by decide))
      refine grows_value _ hW (?_ : _ = _) rfl
      clear hd
      go_simp
    exact each_nil
  · refine behind_val rfl ?_
    refine behind_val rfl ?_
    refine behind_val rfl ?_
    refine behind_val rfl ?_
    refine behind_val rfl ?_
    refine behind_val rfl ?_
    refine behind_val rfl ?_
    refine behind_nil fun W8 hCW8 hFW8 => ?_
    simp only [Act.put, List.setIfInBounds_toArray, List.set_cons_succ, List.set_cons_zero, List.drop_succ_cons, List.drop_zero]
    clear hFW8
    have HO8 := Lib.hid (HO6.out.below hCW8)
    have HQ8 : Hid (W8.heap[q]? = some (.cells #[.slice (some ⟨g2, 0, none⟩) n c2, .slice B m d, .int .u64 (S : Int)] 105 (0, 0))) := Lib.hid ((hCW8.block _ (lt_heap HQ6.out)).trans HQ6.out)
    have HK8 := Lib.hid (HK6.out.step hCW8)
    have HR8 : Hid (W8.heap[r]? = some (.cells #[.int .i64 (i : Int), .int .u64 (k : Int)] 46 (0, 0))) := Lib.hid ((hCW8.block _ (lt_heap HR6.out)).trans HR6.out)
    clear hCW8 HO6 HQ6 HK6 HR6 x0 xr
    obtain ⟨_, _, _, hgl, hgc, hgf⟩ := HO8.out.lies (by omega)
    rename_i gg hgg hgb
    injection hgg with hgg
    injection hgg with hgg
    subst hgg
    have z1 := hgc i (by omega)
    have z2 := hgf i
    have HRG : Hid (r ≠ g2) := Lib.hid (by have := HG2u.out; have := HRL2.out; omega)
    have HQG : Hid (q ≠ g2) := Lib.hid (by have := HG2u.out; have := HQL2.out; omega)
    have HQ9 : Hid ((W8.setCell ⟨g2, i, none⟩ (.int .u64 0)).heap[q]? = some (.cells #[.slice (some ⟨g2, 0, none⟩) n c2, .slice B m d, .int .u64 (S : Int)] 105 (0, 0))) := Lib.hid (blk_far HQ8.out (p := ⟨g2, i, none⟩) HQG.out _)
    have HR9 : Hid ((W8.setCell ⟨g2, i, none⟩ (.int .u64 0)).heap[r]? = some (.cells #[.int .i64 (i : Int), .int .u64 (k : Int)] 46 (0, 0))) := Lib.hid (blk_far HR8.out (p := ⟨g2, i, none⟩) HRG.out _)
    have HO9 : Hid (OwnC (W8.setCell ⟨g2, i, none⟩ (.int .u64 0)) u2.heap.size 22 1 (some ⟨g2, 0, none⟩) n c2 (updV (fun k => .int .u64 (ha k : Int)) i (.int .u64 0))) := Lib.hid (HO8.out.set_ i _)
    have HK9 : Hid (Kept (fun k => k = q) u2 (W8.setCell ⟨g2, i, none⟩ (.int .u64 0))) := Lib.hid (HK8.out.setCell (p := ⟨g2, i, none⟩) (.inr HG2u.out) _)
    clear hgl hgc hgf hgb HO8 HQ8 HK8 HR8
    go_upto_region 5 with fail
    clear z1 z2 i0' i1' i2'
    generalize W8.setCell ⟨g2, i, none⟩ (.int .u64 0) = u9 at *
    have HKW : Hid (Kept (fun k => k = q) w u9) := Lib.hid ((Kept.of_below HB2.out fun k => k = q).trans HK9.out fun _ _ e => e)
    have HG2 : Hid (w.heap.size ≤ g2) := Lib.hid (Nat.le_trans HB2.out.size HG2u.out)
    have HF9 : Hid (RdG u9 (GQ G q) B m (fun k => .int .i64 (fr k : Int))) := Lib.hid (HX2.out.free.keep HK9.out fun k h e => h.2 e)
    have HX1 : Hid (u9.cell? ⟨q, 1, none⟩ = some (.slice B m d)) := Lib.hid (blk_cell HQ9.out 1)
    have HXR : Hid (u9.cell? ⟨r, 0, none⟩ = some (.int .i64 (i : Int))) := Lib.hid (blk_cell HR9.out 0)
    have HQ9L : Hid (q < u9.heap.size) := Lib.hid (lt_heap HQ9.out)
    have HR9L : Hid (r < u9.heap.size) := Lib.hid (lt_heap HR9.out)
    rename_i Kc hKc
    refine wp_region_inv2 (fun a0 l a W => l.size = 14 ∧ a0.tmps.size = 38 ∧ (l.getD 13 false = true → ∀ j, j ≤ 10 → l.getD j false = true) ∧ ∃ z A1 d1 z4 A2 d2, FrU a0 ([(0, 25, .pointer (some ⟨q, 0, none⟩)), (1, 26, .slice (some ⟨z, 0, none⟩) 0 0), (2, 27, .pointer (some ⟨q, 0, none⟩)), (3, 28, .pointer (some ⟨q, 0, none⟩)), (4, 29, .pointer (some ⟨q, 1, none⟩)), (5, 30, .slice B m d), (6, 31, .slice A1 m d1), (7, 32, .pointer (some ⟨r, 0, none⟩)), (8, 33, .int .i64 (i : Int)), (9, 34, .slice (some ⟨z4, 0, none⟩) 1 1), (10, 35, .slice A2 (m + 1) d2), (11, 36, .pointer (some ⟨q, 0, none⟩)), (12, 37, .pointer (some ⟨q, 1, none⟩))] : List (Nat × Nat × Value)) l a ∧ FrR u9 q i m fr (l.getD 1 false) (l.getD 6 false) (l.getD 9 false) (l.getD 10 false) (l.getD 13 false) z A1 d1 z4 A2 d2 W) ?_ ?_ ?_ ?_ ?_ ?_
    · kernel_rfl
    · exact fun _ _ _ h => h.1
    · kernel_rfl
    · refine ⟨by simp, rfl, fun h => (by rw [getD_none] at h; cases h), 0, none, 0, 0, none, 0, FrU.start _ _ _, ?_⟩
      simp only [getD_none]
      exact FrR.start ..
    · intro l a W i5 o hI ho hn hdep
      obtain ⟨hl, hsz, hD, z, A1, d1, z4, A2, d2, hF, hR⟩ := hI
      match i5, ho, hn with
      | 0, ho, hn =>
        simp only [List.getElem?_toArray, List.getElem?_cons_zero, Option.some.injEq] at ho
        subst ho
        have h0 : a.tmps[0]?.getD undef = .pointer (some ⟨q, 0, none⟩) := hF.base 0 (by simp) rfl
        refine owp_value (.pointer (some ⟨q, 0, none⟩)) (w' := W) (by clear hdep; go_simp) ⟨by simp [hl], hsz, dkeep (by decide) hn hD, z, A1, d1, z4, A2, d2, hF.put 0 25 _ (by rw [hsz]; decide) (by simp) (by simp) (by simp), ?_⟩
        rw [getD_set (show 1 ≠ 0 by decide), getD_set (show 6 ≠ 0 by decide), getD_set (show 9 ≠ 0 by decide), getD_set (show 10 ≠ 0 by decide), getD_set (show 13 ≠ 0 by decide)]
        exact hR
      | 1, ho, hn =>
        simp only [List.getElem?_toArray, List.getElem?_cons_zero, List.getElem?_cons_succ, Option.some.injEq] at ho
        subst ho
        refine owp_value (.slice (some ⟨W.heap.size, 0, none⟩) 0 0) (w' := W.alloc (.cells #[] 3)) (by clear hdep; go_simp) ⟨by simp [hl], hsz, dkeep (by decide) hn hD, W.heap.size, A1, d1, z4, A2, d2, hF.put 1 26 _ (by rw [hsz]; decide) (by simp) (by simp) (by simp), ?_⟩
        rw [getD_set_self hn, getD_set (show 6 ≠ 1 by decide), getD_set (show 9 ≠ 1 by decide), getD_set (show 10 ≠ 1 by decide), getD_set (show 13 ≠ 1 by decide)]
        exact hR.s1 (getD_ff hn) (n13_of hn hD (by decide))
      | 2, ho, hn =>
        simp only [List.getElem?_toArray, List.getElem?_cons_zero, List.getElem?_cons_succ, Option.some.injEq] at ho
        subst ho
        have h0 : a.tmps[0]?.getD undef = .pointer (some ⟨q, 0, none⟩) := hF.base 0 (by simp) rfl
        refine owp_value (.pointer (some ⟨q, 0, none⟩)) (w' := W) (by clear hdep; go_simp) ⟨by simp [hl], hsz, dkeep (by decide) hn hD, z, A1, d1, z4, A2, d2, hF.put 2 27 _ (by rw [hsz]; decide) (by simp) (by simp) (by simp), ?_⟩
        rw [getD_set (show 1 ≠ 2 by decide), getD_set (show 6 ≠ 2 by decide), getD_set (show 9 ≠ 2 by decide), getD_set (show 10 ≠ 2 by decide), getD_set (show 13 ≠ 2 by decide)]
        exact hR
      | 3, ho, hn =>
        simp only [List.getElem?_toArray, List.getElem?_cons_zero, List.getElem?_cons_succ, Option.some.injEq] at ho
        subst ho
        have h27 := hF.slot (i := 2) (s := 27) (v := .pointer (some ⟨q, 0, none⟩)) (by simp) (hdep ⟨2, .data⟩ (by simp) rfl)
        refine owp_value (.pointer (some ⟨q, 0, none⟩)) (w' := W) (by clear hdep; go_simp) ⟨by simp [hl], hsz, dkeep (by decide) hn hD, z, A1, d1, z4, A2, d2, hF.put 3 28 _ (by rw [hsz]; decide) (by simp) (by simp) (by simp), ?_⟩
        rw [getD_set (show 1 ≠ 3 by decide), getD_set (show 6 ≠ 3 by decide), getD_set (show 9 ≠ 3 by decide), getD_set (show 10 ≠ 3 by decide), getD_set (show 13 ≠ 3 by decide)]
        exact hR
      | 4, ho, hn =>
        simp only [List.getElem?_toArray, List.getElem?_cons_zero, List.getElem?_cons_succ, Option.some.injEq] at ho
        subst ho
        have h28 := hF.slot (i := 3) (s := 28) (v := .pointer (some ⟨q, 0, none⟩)) (by simp) (hdep ⟨3, .data⟩ (by simp) rfl)
        refine owp_value (.pointer (some ⟨q, 1, none⟩)) (w' := W) (by clear hdep; go_simp) ⟨by simp [hl], hsz, dkeep (by decide) hn hD, z, A1, d1, z4, A2, d2, hF.put 4 29 _ (by rw [hsz]; decide) (by simp) (by simp) (by simp), ?_⟩
        rw [getD_set (show 1 ≠ 4 by decide), getD_set (show 6 ≠ 4 by decide), getD_set (show 9 ≠ 4 by decide), getD_set (show 10 ≠ 4 by decide), getD_set (show 13 ≠ 4 by decide)]
        exact hR
      | 5, ho, hn =>
        simp only [List.getElem?_toArray, List.getElem?_cons_zero, List.getElem?_cons_succ, Option.some.injEq] at ho
        subst ho
        have h29 := hF.slot (i := 4) (s := 29) (v := .pointer (some ⟨q, 1, none⟩)) (by simp) (hdep ⟨4, .data⟩ (by simp) rfl)
        have n13 := n13_of hn hD (by decide)
        have xx : W.cell? ⟨q, 1, none⟩ = some (.slice B m d) := ((hR.below n13).cell (p := ⟨q, 1, none⟩) HQ9L.out).trans HX1.out
        refine owp_value (.slice B m d) (w' := W) (by clear hdep; go_simp) ⟨by simp [hl], hsz, dkeep (by decide) hn hD, z, A1, d1, z4, A2, d2, hF.put 5 30 _ (by rw [hsz]; decide) (by simp) (by simp) (by simp), ?_⟩
        rw [getD_set (show 1 ≠ 5 by decide), getD_set (show 6 ≠ 5 by decide), getD_set (show 9 ≠ 5 by decide), getD_set (show 10 ≠ 5 by decide), getD_set (show 13 ≠ 5 by decide)]
        exact hR
      | 6, ho, hn =>
        simp only [List.getElem?_toArray, List.getElem?_cons_zero, List.getElem?_cons_succ, Option.some.injEq] at ho
        subst ho
        have h26 := hF.slot (i := 1) (s := 26) (v := .slice (some ⟨z, 0, none⟩) 0 0) (by simp) (hdep ⟨1, .data⟩ (by simp) rfl)
        have h30 := hF.slot (i := 5) (s := 30) (v := .slice B m d) (by simp) (hdep ⟨5, .data⟩ (by simp) rfl)
        have d1' : l.getD 1 false = true := (hdep ⟨1, .data⟩ (by simp) rfl)
        have n6 := getD_ff hn
        have n13 := n13_of hn hD (by decide)
        obtain ⟨ho1, hz1⟩ := hR.one d1' n6
        obtain ⟨A3, d3, w3, hrun, hown, hg, _⟩ := run_append_vals (P := Try.prog) u9.heap.size 96 96 3 j0 (.int .i64 0) 1 Try.underlying96 HJ0.out HY0.out HY1.out rfl (by decide) ho1 (B := W.heap.size) (m := m) (c' := d) (A' := B) (g := (fun k => .int .i64 (fr k : Int))) (by rw [Nat.mul_one]; exact (HF9.out.rdc.keep (hR.below n13)).more (hR.below n13).size) (fun _ _ => rfl) (by unfold maxLen; omega) (by rw [HY2.out]; omega) (hR.below n13).size
        rw [Nat.zero_add] at hrun hown
        refine owp_value (.slice A3 m d3) (w' := w3) (by clear hdep; simp only [execOp, resolve, invoke, builtin, Sem.run_bind, Sem.run_pure, Result.andThen_ok, List.map_toArray, List.map_cons, List.map_nil, Act.eval, Array.getD_eq_getD_getElem?, h26, h30, hrun]) ⟨by simp [hl], hsz, dkeep (by decide) hn hD, z, A3, d3, z4, A2, d2, hF.put 6 31 _ (by rw [hsz]; decide) (by simp) (by simp) (by simp), ?_⟩
        rw [getD_set (show 1 ≠ 6 by decide), getD_set_self hn, getD_set (show 9 ≠ 6 by decide), getD_set (show 10 ≠ 6 by decide), getD_set (show 13 ≠ 6 by decide)]
        exact hR.s6_ d1' n6 n13 hown hg
      | 7, ho, hn =>
        simp only [List.getElem?_toArray, List.getElem?_cons_zero, List.getElem?_cons_succ, Option.some.injEq] at ho
        subst ho
        have h3 : a.tmps[3]?.getD undef = .pointer (some ⟨r, 0, none⟩) := hF.base 3 (by simp) rfl
        refine owp_value (.pointer (some ⟨r, 0, none⟩)) (w' := W) (by clear hdep; go_simp) ⟨by simp [hl], hsz, dkeep (by decide) hn hD, z, A1, d1, z4, A2, d2, hF.put 7 32 _ (by rw [hsz]; decide) (by simp) (by simp) (by simp), ?_⟩
        rw [getD_set (show 1 ≠ 7 by decide), getD_set (show 6 ≠ 7 by decide), getD_set (show 9 ≠ 7 by decide), getD_set (show 10 ≠ 7 by decide), getD_set (show 13 ≠ 7 by decide)]
        exact hR
      | 8, ho, hn =>
        simp only [List.getElem?_toArray, List.getElem?_cons_zero, List.getElem?_cons_succ, Option.some.injEq] at ho
        subst ho
        have h32 := hF.slot (i := 7) (s := 32) (v := .pointer (some ⟨r, 0, none⟩)) (by simp) (hdep ⟨7, .data⟩ (by simp) rfl)
        have n13 := n13_of hn hD (by decide)
        have xx : W.cell? ⟨r, 0, none⟩ = some (.int .i64 (i : Int)) := ((hR.below n13).cell (p := ⟨r, 0, none⟩) HR9L.out).trans HXR.out
        refine owp_value (.int .i64 (i : Int)) (w' := W) (by clear hdep; go_simp) ⟨by simp [hl], hsz, dkeep (by decide) hn hD, z, A1, d1, z4, A2, d2, hF.put 8 33 _ (by rw [hsz]; decide) (by simp) (by simp) (by simp), ?_⟩
        rw [getD_set (show 1 ≠ 8 by decide), getD_set (show 6 ≠ 8 by decide), getD_set (show 9 ≠ 8 by decide), getD_set (show 10 ≠ 8 by decide), getD_set (show 13 ≠ 8 by decide)]
        exact hR
      | 9, ho, hn =>
        simp only [List.getElem?_toArray, List.getElem?_cons_zero, List.getElem?_cons_succ, Option.some.injEq] at ho
        subst ho
        have h33 := hF.slot (i := 8) (s := 33) (v := .int .i64 (i : Int)) (by simp) (hdep ⟨8, .data⟩ (by simp) rfl)
        refine owp_value (.slice (some ⟨W.heap.size, 0, none⟩) 1 1) (w' := W.alloc (.cells #[.int .i64 (i : Int)] 3)) (by clear hdep; go_simp) ⟨by simp [hl], hsz, dkeep (by decide) hn hD, z, A1, d1, W.heap.size, A2, d2, hF.put 9 34 _ (by rw [hsz]; decide) (by simp) (by simp) (by simp), ?_⟩
        rw [getD_set (show 1 ≠ 9 by decide), getD_set (show 6 ≠ 9 by decide), getD_set_self hn, getD_set (show 10 ≠ 9 by decide), getD_set (show 13 ≠ 9 by decide)]
        exact hR.s9_ (getD_ff hn) (n13_of hn hD (by decide))
      | 10, ho, hn =>
        simp only [List.getElem?_toArray, List.getElem?_cons_zero, List.getElem?_cons_succ, Option.some.injEq] at ho
        subst ho
        have h31 := hF.slot (i := 6) (s := 31) (v := .slice A1 m d1) (by simp) (hdep ⟨6, .data⟩ (by simp) rfl)
        have h34 := hF.slot (i := 9) (s := 34) (v := .slice (some ⟨z4, 0, none⟩) 1 1) (by simp) (hdep ⟨9, .data⟩ (by simp) rfl)
        have d6 : l.getD 6 false = true := (hdep ⟨6, .data⟩ (by simp) rfl)
        have d9 : l.getD 9 false = true := (hdep ⟨9, .data⟩ (by simp) rfl)
        have n10 := getD_ff hn
        have n13 := n13_of hn hD (by decide)
        have ho6 := hR.six d6 n10
        obtain ⟨hz4, hq4⟩ := hR.nine d9 n10
        have hrd4 : RdC W W.heap.size (some ⟨z4, 0, none⟩) (1 * 1) (fun _ => .int .i64 (i : Int)) := .inr ⟨z4, 0, rfl, lt_heap hq4, fun k hk => by
          have e : k = 0 := by omega
          subst e
          exact blk_cell hq4 0⟩
        obtain ⟨A3, d3, w3, hrun, hown, hg, _⟩ := run_append_vals (P := Try.prog) u9.heap.size 96 96 3 j0 (.int .i64 0) 1 Try.underlying96 HJ0.out HY0.out HY1.out rfl (by decide) ho6 (B := W.heap.size) (m := 1) (c' := 1) hrd4 (fun _ _ => rfl) (by unfold maxLen; omega) (by rw [HY2.out]; omega) (hR.below n13).size
        refine owp_value (.slice A3 (m + 1) d3) (w' := w3) (by clear hdep; simp only [execOp, resolve, invoke, builtin, Sem.run_bind, Sem.run_pure, Result.andThen_ok, List.map_toArray, List.map_cons, List.map_nil, Act.eval, Array.getD_eq_getD_getElem?, h31, h34, hrun]) ⟨by simp [hl], hsz, dkeep (by decide) hn hD, z, A1, d1, z4, A3, d3, hF.put 10 35 _ (by rw [hsz]; decide) (by simp) (by simp) (by simp), ?_⟩
        rw [getD_set (show 1 ≠ 10 by decide), getD_set (show 6 ≠ 10 by decide), getD_set (show 9 ≠ 10 by decide), getD_set_self hn, getD_set (show 13 ≠ 10 by decide)]
        exact hR.s10_ d6 d9 n10 n13 (hown.same fun k _ => by rw [Nat.mul_one]) hg
      | 11, ho, hn =>
        simp only [List.getElem?_toArray, List.getElem?_cons_zero, List.getElem?_cons_succ, Option.some.injEq] at ho
        subst ho
        have h25 := hF.slot (i := 0) (s := 25) (v := .pointer (some ⟨q, 0, none⟩)) (by simp) (hdep ⟨0, .data⟩ (by simp) rfl)
        refine owp_value (.pointer (some ⟨q, 0, none⟩)) (w' := W) (by clear hdep; go_simp) ⟨by simp [hl], hsz, dkeep (by decide) hn hD, z, A1, d1, z4, A2, d2, hF.put 11 36 _ (by rw [hsz]; decide) (by simp) (by simp) (by simp), ?_⟩
        rw [getD_set (show 1 ≠ 11 by decide), getD_set (show 6 ≠ 11 by decide), getD_set (show 9 ≠ 11 by decide), getD_set (show 10 ≠ 11 by decide), getD_set (show 13 ≠ 11 by decide)]
        exact hR
      | 12, ho, hn =>
        simp only [List.getElem?_toArray, List.getElem?_cons_zero, List.getElem?_cons_succ, Option.some.injEq] at ho
        subst ho
        have h36 := hF.slot (i := 11) (s := 36) (v := .pointer (some ⟨q, 0, none⟩)) (by simp) (hdep ⟨11, .data⟩ (by simp) rfl)
        refine owp_value (.pointer (some ⟨q, 1, none⟩)) (w' := W) (by clear hdep; go_simp) ⟨by simp [hl], hsz, dkeep (by decide) hn hD, z, A1, d1, z4, A2, d2, hF.put 12 37 _ (by rw [hsz]; decide) (by simp) (by simp) (by simp), ?_⟩
        rw [getD_set (show 1 ≠ 12 by decide), getD_set (show 6 ≠ 12 by decide), getD_set (show 9 ≠ 12 by decide), getD_set (show 10 ≠ 12 by decide), getD_set (show 13 ≠ 12 by decide)]
        exact hR
      | 13, ho, hn =>
        simp only [List.getElem?_toArray, List.getElem?_cons_zero, List.getElem?_cons_succ, Option.some.injEq] at ho
        subst ho
        have h35 := hF.slot (i := 10) (s := 35) (v := .slice A2 (m + 1) d2) (by simp) (hdep ⟨10, .data⟩ (by simp) rfl)
        have h37 := hF.slot (i := 12) (s := 37) (v := .pointer (some ⟨q, 1, none⟩)) (by simp) (hdep ⟨12, .data⟩ (by simp) rfl)
        have n13 := getD_ff hn
        have d10 : l.getD 10 false = true := (hdep ⟨10, .data⟩ (by simp) rfl)
        have hb := hR.below n13
        have hc : W.heap[q]? = some (.cells #[.slice (some ⟨g2, 0, none⟩) n c2, .slice B m d, .int .u64 (S : Int)] 105 (0, 0)) := (hb.block q HQ9L.out).trans HQ9.out
        have y1 := blk_cell hc 1
        have y1f := blk_free hc 1
        refine owp_skip (w' := W.setCell ⟨q, 1, none⟩ (.slice A2 (m + 1) d2)) (by clear hdep; go_simp) ⟨by simp [hl], hsz, fun _ j hj => ?_, z, A1, d1, z4, A2, d2, hF.skip 13 (by simp), ?_⟩
        · match j, hj with
          | 0, _ => rw [getD_set (show 0 ≠ 13 by decide)]; exact (hdep ⟨0, .phase⟩ (by simp) rfl)
          | 1, _ => rw [getD_set (show 1 ≠ 13 by decide)]; exact (hdep ⟨1, .phase⟩ (by simp) rfl)
          | 2, _ => rw [getD_set (show 2 ≠ 13 by decide)]; exact (hdep ⟨2, .phase⟩ (by simp) rfl)
          | 3, _ => rw [getD_set (show 3 ≠ 13 by decide)]; exact (hdep ⟨3, .phase⟩ (by simp) rfl)
          | 4, _ => rw [getD_set (show 4 ≠ 13 by decide)]; exact (hdep ⟨4, .phase⟩ (by simp) rfl)
          | 5, _ => rw [getD_set (show 5 ≠ 13 by decide)]; exact (hdep ⟨5, .phase⟩ (by simp) rfl)
          | 6, _ => rw [getD_set (show 6 ≠ 13 by decide)]; exact (hdep ⟨6, .phase⟩ (by simp) rfl)
          | 7, _ => rw [getD_set (show 7 ≠ 13 by decide)]; exact (hdep ⟨7, .phase⟩ (by simp) rfl)
          | 8, _ => rw [getD_set (show 8 ≠ 13 by decide)]; exact (hdep ⟨8, .phase⟩ (by simp) rfl)
          | 9, _ => rw [getD_set (show 9 ≠ 13 by decide)]; exact (hdep ⟨9, .phase⟩ (by simp) rfl)
          | 10, _ => rw [getD_set (show 10 ≠ 13 by decide)]; exact (hdep ⟨10, .phase⟩ (by simp) rfl)
          | j + 11, h => exact absurd h (by omega)
        · rw [getD_set (show 1 ≠ 13 by decide), getD_set (show 6 ≠ 13 by decide), getD_set (show 9 ≠ 13 by decide), getD_set (show 10 ≠ 13 by decide), getD_set_self hn]
          exact hR.s13 d10 n13
      | i5 + 14, ho, hn => simp at ho
    · intro l a W1 hI hall
      obtain ⟨hl, hsz, hD, z, A1, d1, z4, A2, d2, hF, hR⟩ := hI
      have hall : ∀ i, i < 14 → l.getD i false = true := hall
      obtain ⟨W0, hW0, hb0, ho0⟩ := hR.end_ (hall 13 (by decide))
      have ha := hF.all (by simp only [List.mem_cons, List.not_mem_nil, or_false]; rintro x (rfl | rfl | rfl | rfl | rfl | rfl | rfl | rfl | rfl | rfl | rfl | rfl | rfl) <;> exact hall _ (by dsimp only; decide)) (by simp) (by rw [hsz]; simp)
      subst ha
      have HB0 := Lib.hid hb0
      have HO0 := Lib.hid ho0
      clear hF hR hall hl hsz hD hb0 ho0
      subst hW0
      refine hKc _ _ ?_
      simp only [setAll, List.setIfInBounds_toArray, List.set_cons_succ, List.set_cons_zero]
      go_wp2_with fail
      go_ret
      have hq9 := HQ9L.out
      have hQ0 : (W0.setCell ⟨q, 1, none⟩ (.slice A2 (m + 1) d2)).heap[q]? = some (.cells #[.slice (some ⟨g2, 0, none⟩) n c2, .slice A2 (m + 1) d2, .int .u64 (S : Int)] 105 (0, 0)) := blk_set ((HB0.out.block q hq9).trans HQ9.out) 1 _
      have hK0 : Kept (fun k => k = q) u9 (W0.setCell ⟨q, 1, none⟩ (.slice A2 (m + 1) d2)) := ((Kept.refl (fun k => k = q) u9).step HB0.out).setCell (p := ⟨q, 1, none⟩) (.inl rfl) _
      have hO0 : OwnC (W0.setCell ⟨q, 1, none⟩ (.slice A2 (m + 1) d2)) u9.heap.size 3 1 A2 (m + 1) d2 (catV m (fun k => .int .i64 (fr k : Int)) fun _ => .int .i64 (i : Int)) := HO0.out.far (p := ⟨q, 1, none⟩) hq9 _
      have hKW := HKW.out.trans hK0 fun _ _ e => e
      have hwq := HWQ.out
      have hg2 := HG2.out
      have hs9 := hK0.size
      have hsw := HKW.out.size
      have hb2 := HB2.out.size
      refine ⟨rfl, ⟨some ⟨g2, 0, none⟩, c2, A2, d2, ?_⟩, hKW⟩
      refine ⟨hQ0, .inl HX0.out.mem, fun k h => ?_, ?_, ?_, HCC.out.1, HCC.out.2, hO0.cap, by have := hO0.cap_le; unfold maxLen at this; omega⟩
      · rcases h with h | h
        · exact Nat.lt_of_lt_of_le (HX0.out.old k h) hKW.size
        · exact h.2
      · refine (((HO9.out.rdg (G := fun k => w.heap.size ≤ k ∧ k < u9.heap.size) fun k h1 h2 => ⟨by omega, h2⟩).keep hK0 fun k h e => by have e : k = q := e; omega).mono fun k h => ⟨.inr ⟨h.1, Nat.lt_of_lt_of_le h.2 hs9⟩, by omega⟩).same fun k hk => ?_
        unfold updV
        by_cases e : k = i
        · rw [if_pos e, if_pos e]
          rfl
        · rw [if_neg e, if_neg e]
      · refine ((hO0.rdg (G := fun k => w.heap.size ≤ k ∧ k < (W0.setCell ⟨q, 1, none⟩ (.slice A2 (m + 1) d2)).heap.size) fun k h1 h2 => ⟨by omega, h2⟩).mono fun k h => ⟨.inr h, by omega⟩).same fun k hk => ?_
        unfold catV
        by_cases e : k < m
        · rw [if_pos e, if_pos e]
        · rw [if_neg e, if_neg e]
theorem Ar.freed_le {s : Ar} (hs : s.Ok) : s.freed.length ≤ s.has.length := by
  have h : s.freed ⊆ List.range s.has.length := fun j hj => by
    rw [List.mem_range]
    have := hs.low j hj
    exact (List.getElem?_eq_some_iff.1 this).1
  have := hs.nodup.length_le_of_subset h
  rwa [List.length_range] at this
/-- What Free does. -/
def RFr (w : World) (q : Nat) (s : Ar) (G : Nat → Prop) (i : Int) (k : Nat) (e : Ending) (w' : World) : Prop :=
  (s.live i k = false ∧ e = .returned (.int .i64 14) ∧ Below w.heap.size w w') ∨
  (s.live i k = true ∧ e = .returned (.int .i64 0) ∧ RA w' q (s.gone i.toNat) (fun k => G k ∨ w.heap.size ≤ k ∧ k < w'.heap.size) ∧ Kept (fun k => k = q) w w')
theorem rfree_any {w : World} {q : Nat} {s : Ar} {G : Nat → Prop} (hs : s.Ok) (h : RA w q s G) (hn : s.has.length ≤ 65536) (i : Int) (k : Nat) : Calls Try.prog 50 #[.pointer (some ⟨q, 0, none⟩), .agg #[.int .i64 i, .int .u64 (k : Int)]] w (RFr w q s G i k) := by
  obtain ⟨A, c, B, d, hx⟩ := h
  cases hl : s.live i k with
  | false =>
    refine (rfreeX_no _ _ _ _ _ _ _ _ _ _ _ i k w hx fun W hx => ?_).mono ?_
    · have := rlive_any (s := s) ⟨A, c, B, d, hx⟩ hn i k
      rwa [hl] at this
    · rintro e w' ⟨he, hb⟩
      exact .inl ⟨hl, he, hb⟩
  | true =>
    obtain ⟨h0, hk, ha⟩ := Ar.live_iff.1 hl
    obtain ⟨j, rfl⟩ := Int.eq_ofNat_of_zero_le h0
    have hj : ((j : Int)).toNat = j := by omega
    rw [hj] at ha
    have hlt : j < s.has.length := by
      rcases Nat.lt_or_ge j s.has.length with q | q
      · exact q
      · rw [Ar.at_out q] at ha
        exact absurd ha.symm hk
    have hf := Ar.freed_le hs
    refine (rfreeX_any _ _ _ _ _ _ _ _ _ _ _ hn (by omega) j k hlt w hx fun W hx => ?_).mono ?_
    · have := rlive_any (s := s) ⟨A, c, B, d, hx⟩ hn (j : Int) k
      rwa [hl] at this
    · rintro e w' ⟨he, ⟨A2, c2, B2, d2, hx2⟩, hkp⟩
      refine .inr ⟨hl, he, ⟨A2, c2, B2, d2, ?_⟩, hkp⟩
      rw [hj]
      have e1 : (s.gone j).has.length = s.has.length := List.length_set
      have e2 : (s.gone j).freed.length = s.freed.length + 1 := by
        show (s.freed ++ [j]).length = _
        rw [List.length_append]
        rfl
      have e3 : (s.gone j).at_ = fun x => if x = j then 0 else s.at_ x := funext fun x => Ar.at_gone (by rw [ha]; exact hk) x
      rw [e1, e2, e3]
      refine hx2.fr fun x hx => ?_
      show (s.freed ++ [j]).getD x 0 = if x < s.freed.length then s.freed.getD x 0 else j
      by_cases q : x < s.freed.length
      · rw [if_pos q, List.getD_eq_getElem?_getD, List.getD_eq_getElem?_getD, List.getElem?_append_left q]
      · rw [if_neg q, List.getD_eq_getElem?_getD, List.getElem?_append_right (by omega), show x - s.freed.length = 0 by omega]
        rfl
end Go.Proofs.Ytkmakdhlaenaoaa
/- Stage 9: the document's All. -/
namespace Go.Proofs.Ytkmakdhlaenaoaa
set_option maxRecDepth 100000
open Go.RowKit
/-- Handles as cells. -/
def tcell (l : List (Nat × Nat)) (j : Nat) : Value := if j % 2 = 0 then .int .i64 ((l.getD (j / 2) (0, 0)).1 : Int) else .int .u64 ((l.getD (j / 2) (0, 0)).2 : Int)
theorem tcell_snoc (l : List (Nat × Nat)) (x : Nat × Nat) (g : Nat → Value) (h0 : g 0 = .int .i64 (x.1 : Int)) (h1 : g 1 = .int .u64 (x.2 : Int)) (j : Nat) (hj : j < (l.length + 1) * 2) : tcell (l ++ [x]) j = catV (l.length * 2) (tcell l) g j := by
  unfold catV
  by_cases c : j < l.length * 2
  · rw [if_pos c]
    unfold tcell
    have : j / 2 < l.length := by omega
    have e : (l ++ [x]).getD (j / 2) (0, 0) = l.getD (j / 2) (0, 0) := by
      rw [List.getD_eq_getElem?_getD, List.getD_eq_getElem?_getD, List.getElem?_append_left this]
    rw [e]
  · rw [if_neg c]
    have e : (l ++ [x]).getD (j / 2) (0, 0) = x := by
      rw [List.getD_eq_getElem?_getD, List.getElem?_append_right (by omega), show j / 2 - l.length = 0 by omega]
      rfl
    unfold tcell
    rw [e]
    rcases (show j - l.length * 2 = 0 ∨ j - l.length * 2 = 1 by omega) with q | q
    · rw [q, h0, if_pos (by omega)]
    · rw [q, h1, if_neg (by omega)]
theorem tcell_one (l : List (Nat × Nat)) (j : Nat) : (tcell l j).oneCell' = true := by unfold tcell; split <;> rfl
theorem Try.infoH : (Try.prog.info? 46).map (fun i => (i.zero, i.size, i.bytes)) = some (some (.agg #[.int .i64 0, .int .u64 0]), 2, 16) := by kernel_rfl
theorem Ar.told_len (s : Ar) (n : Nat) : (s.told n).length ≤ n := by
  unfold Ar.told
  rw [List.length_map]
  exact Nat.le_trans (List.length_filter_le _ _) (by rw [List.length_range]; exact Nat.le_refl _)
end Go.Proofs.Ytkmakdhlaenaoaa
