/- Stage 10: SlotsOrder. -/
import Derived.Test.YthlnhkkjpjbmeaaXo
namespace Go.Proofs.Ythlnhkkjpjbmeaa
set_option maxRecDepth 100000
open Go.RowKit Go.Shelf
attribute [local go_sem] Oper.semAt_some
/-- In the first loop. -/
structure O1 (wb w : World) (p b5 b6 bm : Nat) (A9 : Option Addr) (c9 : Nat) (L M : List Nat) (z : Int) : Prop where
  st : ST wb p (stK M) (fun k => k = b5 ∨ k = b6 ∨ k = bm ∨ InA A9 k) w
  own : OwnC w wb.heap.size 3 1 A9 L.length c9 (ints L)
  mp : AMap w bm kvI (asetL L)
  x5 : w.heap[b5]? = some (.cells #[.int .i64 z] 3 (0, 0))
  x6 : w.heap[b6]? = some (.cells #[.bool false] 4 (0, 0))
  d : ¬ InA A9 b5 ∧ ¬ InA A9 b6 ∧ ¬ InA A9 bm
  lo : wb.heap.size ≤ b5 ∧ wb.heap.size ≤ b6 ∧ wb.heap.size ≤ bm
  ne : b5 ≠ b6 ∧ b5 ≠ bm ∧ b6 ≠ bm
  nd : L.Nodup
  lt : ∀ c, c ∈ L → c < 64
theorem O1.turn {wb w w' : World} {p b5 b6 bm : Nat} {A9 : Option Addr} {c9 : Nat} {L M M' : List Nat} {z : Int} (h : O1 wb w p b5 b6 bm A9 c9 L M z) (hst : ST wb p (stK M') (fun k => k = b5 ∨ k = b6 ∨ k = bm ∨ InA A9 k) w') (hk : ∀ k, (k = b5 ∨ k = b6 ∨ k = bm ∨ InA A9 k) → w'.heap[k]? = w.heap[k]?) : O1 wb w' p b5 b6 bm A9 c9 L M' z :=
  ⟨hst, h.own.keepAny fun g e => hk g (.inr (.inr (.inr e))), h.mp.block (hk bm (.inr (.inr (.inl rfl)))), (hk b5 (.inl rfl)).trans h.x5, (hk b6 (.inr (.inl rfl))).trans h.x6, h.d, h.lo, h.ne, h.nd, h.lt⟩
/-- A number more. -/
theorem O1.app {wb w u w' : World} {p b5 b6 bm : Nat} {A9 A2 : Option Addr} {c9 c2 : Nat} {L M L2 : List Nat} {z : Int} (h : O1 wb w p b5 b6 bm A9 c9 L M z) (hb : Below w.heap.size w u) (hg : u.grownBy w' (Value.ownBlock (.slice A9 L.length c9))) (ho : Value.ownBlock (.slice A2 L2.length c2) = Value.ownBlock (.slice A9 L.length c9) ∨ Value.ownBlock (.slice A2 L2.length c2) = some u.heap.size) (hown : OwnC w' wb.heap.size 3 1 A2 L2.length c2 (ints L2)) {u2 : World} (hmp : AMap u2 bm kvI (asetL L2)) (hm : Kept (fun k => k = bm) w' u2) (hnd : L2.Nodup) (hlt : ∀ c, c ∈ L2 → c < 64) :
    O1 wb u2 p b5 b6 bm A2 c2 L2 M z := by
  have hA := h.own.below hb
  have k1 : Kept (InA A9) w w' := (Kept.of_below hb _).trans (hA.grown_kept hg) fun _ _ r => r
  have k2 : Kept (fun k => InA A9 k ∨ k = bm) w u2 := (k1.mono fun _ _ r => .inl r).trans hm fun _ _ r => .inr r
  have hnew : ∀ k, InA A2 k → InA A9 k ∨ (w.heap.size ≤ k ∧ k < u2.heap.size) := fun k r => (hA.grown_new hown ho k r).imp id fun q => ⟨Nat.le_trans hb.size q.1, Nat.lt_of_lt_of_le q.2 hm.size⟩
  have l5 := lt_heap h.x5
  have l6 := lt_heap h.x6
  have lm := h.mp.lt
  have hd : ∀ b, ¬ InA A9 b → b < w.heap.size → ¬ InA A2 b := fun b h1 h2 r => by
    rcases hnew b r with q | q
    · exact h1 q
    · omega
  have hd2 := hd bm h.d.2.2 lm
  refine ⟨h.st.grown k2 (fun k r _ => ?_) (fun k r => ?_), hown.keepAny fun g e => hm.block g (hown.inA_lo g e).2 fun q => hd2 (by rw [← q]; exact e), hmp, (k2.block b5 l5 fun r => ?_).trans h.x5, (k2.block b6 l6 fun r => ?_).trans h.x6, ⟨hd b5 h.d.1 l5, hd b6 h.d.2.1 l6, hd2⟩, h.lo, h.ne, hnd, hlt⟩
  · rcases r with r | r
    · exact ⟨.inr (.inr (.inr r)), (h.own.inA_lo k r).1⟩
    · subst r
      exact ⟨.inr (.inr (.inl rfl)), h.lo.2.2⟩
  · rcases r with r | r | r | r
    · exact .inl (.inl r)
    · exact .inl (.inr (.inl r))
    · exact .inl (.inr (.inr (.inl r)))
    · exact (hnew k r).imp (fun q => .inr (.inr (.inr q))) id
  · rcases r with r | r
    · exact h.d.1 r
    · exact h.ne.2.1 r
  · rcases r with r | r
    · exact h.d.2.1 r
    · exact h.ne.2.2 r
/-- The set is written to again. -/
theorem O1.again {wb w u2 : World} {p b5 b6 bm : Nat} {A9 : Option Addr} {c9 : Nat} {L M : List Nat} {z : Int} (h : O1 wb w p b5 b6 bm A9 c9 L M z) (hmp : AMap u2 bm kvI (asetL L)) (hm : Kept (fun k => k = bm) w u2) : O1 wb u2 p b5 b6 bm A9 c9 L M z :=
  ⟨h.st.kept hm fun k r _ => by subst r; exact ⟨.inr (.inr (.inl rfl)), h.lo.2.2⟩, h.own.keepAny fun g e => hm.block g (h.own.inA_lo g e).2 fun q => h.d.2.2 (by rw [← q]; exact e), hmp, (hm.block b5 (lt_heap h.x5) h.ne.2.1).trans h.x5, (hm.block b6 (lt_heap h.x6) h.ne.2.2).trans h.x6, h.d, h.lo, h.ne, h.nd, h.lt⟩
/-- In the second loop. -/
structure O2 (wb w : World) (p b5 b6 b15 : Nat) (A9 A15 : Option Addr) (c9 c15 : Nat) (L Q M : List Nat) (z : Int) : Prop where
  st : ST wb p (stK M) (fun k => k = b5 ∨ k = b6 ∨ InA A9 k ∨ k = b15 ∨ InA A15 k) w
  own9 : OwnC w wb.heap.size 3 1 A9 L.length c9 (ints L)
  own : OwnC w wb.heap.size 3 1 A15 Q.length c15 (ints Q)
  x5 : w.heap[b5]? = some (.cells #[.int .i64 z] 3 (0, 0))
  x6 : w.heap[b6]? = some (.cells #[.bool false] 4 (0, 0))
  x15 : w.heap[b15]? = some (.cells #[.slice A15 Q.length c15] 43 (0, 0))
  d9 : ¬ InA A9 b5 ∧ ¬ InA A9 b6 ∧ ¬ InA A9 b15
  d : ¬ InA A15 b5 ∧ ¬ InA A15 b6 ∧ ¬ InA A15 b15
  dd : ∀ k, InA A15 k → ¬ InA A9 k
  lo : wb.heap.size ≤ b5 ∧ wb.heap.size ≤ b6 ∧ wb.heap.size ≤ b15
  ne : b5 ≠ b6 ∧ b5 ≠ b15 ∧ b6 ≠ b15
theorem O2.turn {wb w w' : World} {p b5 b6 b15 : Nat} {A9 A15 : Option Addr} {c9 c15 : Nat} {L Q M M' : List Nat} {z : Int} (h : O2 wb w p b5 b6 b15 A9 A15 c9 c15 L Q M z) (hst : ST wb p (stK M') (fun k => k = b5 ∨ k = b6 ∨ InA A9 k ∨ k = b15 ∨ InA A15 k) w') (hk : ∀ k, (k = b5 ∨ k = b6 ∨ InA A9 k ∨ k = b15 ∨ InA A15 k) → w'.heap[k]? = w.heap[k]?) : O2 wb w' p b5 b6 b15 A9 A15 c9 c15 L Q M' z :=
  ⟨hst, h.own9.keepAny fun g e => hk g (.inr (.inr (.inl e))), h.own.keepAny fun g e => hk g (.inr (.inr (.inr (.inr e)))), (hk b5 (.inl rfl)).trans h.x5, (hk b6 (.inr (.inl rfl))).trans h.x6, (hk b15 (.inr (.inr (.inr (.inl rfl))))).trans h.x15, h.d9, h.d, h.dd, h.lo, h.ne⟩
theorem O2.app {wb w u w' : World} {p b5 b6 b15 : Nat} {A9 A15 A2 : Option Addr} {c9 c15 c2 : Nat} {L Q M Q2 : List Nat} {z : Int} (h : O2 wb w p b5 b6 b15 A9 A15 c9 c15 L Q M z) (hb : Below w.heap.size w u) (hg : u.grownBy w' (Value.ownBlock (.slice A15 Q.length c15))) (ho : Value.ownBlock (.slice A2 Q2.length c2) = Value.ownBlock (.slice A15 Q.length c15) ∨ Value.ownBlock (.slice A2 Q2.length c2) = some u.heap.size) (hown : OwnC w' wb.heap.size 3 1 A2 Q2.length c2 (ints Q2)) :
    O2 wb (w'.setCell ⟨b15, 0, none⟩ (.slice A2 Q2.length c2)) p b5 b6 b15 A9 A2 c9 c2 L Q2 M z := by
  have hA := h.own.below hb
  have k1 : Kept (InA A15) w w' := (Kept.of_below hb _).trans (hA.grown_kept hg) fun _ _ r => r
  have k2 : Kept (fun k => InA A15 k ∨ k = b15) w (w'.setCell ⟨b15, 0, none⟩ (.slice A2 Q2.length c2)) := (k1.mono (R' := fun k => InA A15 k ∨ k = b15) fun _ _ r => .inl r).setCell (p := ⟨b15, 0, none⟩) (.inl (.inr rfl)) _
  have hsz : (w'.setCell ⟨b15, 0, none⟩ (.slice A2 Q2.length c2)).heap.size = w'.heap.size := by simp
  have hnew : ∀ k, InA A2 k → InA A15 k ∨ (w.heap.size ≤ k ∧ k < w'.heap.size) := fun k r => (hA.grown_new hown ho k r).imp id fun q => ⟨Nat.le_trans hb.size q.1, q.2⟩
  have l5 := lt_heap h.x5
  have l6 := lt_heap h.x6
  have l15 := lt_heap h.x15
  have hd : ∀ b, ¬ InA A15 b → b < w.heap.size → ¬ InA A2 b := fun b h1 h2 r => by
    rcases hnew b r with q | q
    · exact h1 q
    · omega
  have hd2 := hd b15 h.d.2.2 l15
  have hw15 : w'.heap[b15]? = w.heap[b15]? := k1.block b15 l15 h.d.2.2
  refine ⟨h.st.grown k2 (fun k r _ => ?_) (fun k r => ?_), h.own9.keepAny fun g e => k2.block g (h.own9.inA_lo g e).2 fun q => ?_, hown.keepAny fun g e => Below.heap_setCell w' ⟨b15, 0, none⟩ _ g fun q => hd2 (by rw [← show g = b15 from q]; exact e), (k2.block b5 l5 fun r => ?_).trans h.x5, (k2.block b6 l6 fun r => ?_).trans h.x6, blk_set (hw15.trans h.x15) 0 _, h.d9, ⟨hd b5 h.d.1 l5, hd b6 h.d.2.1 l6, hd2⟩, fun k r q => ?_, h.lo, h.ne⟩
  · rcases r with r | r
    · exact ⟨.inr (.inr (.inr (.inr r))), (h.own.inA_lo k r).1⟩
    · subst r
      exact ⟨.inr (.inr (.inr (.inl rfl))), h.lo.2.2⟩
  · rcases r with r | r | r | r | r
    · exact .inl (.inl r)
    · exact .inl (.inr (.inl r))
    · exact .inl (.inr (.inr (.inl r)))
    · exact .inl (.inr (.inr (.inr (.inl r))))
    · exact (hnew k r).imp (fun q => .inr (.inr (.inr (.inr q)))) fun q => ⟨q.1, by rw [hsz]; exact q.2⟩
  · rcases q with q | q
    · exact h.dd g q e
    · exact h.d9.2.2 (by rw [← q]; exact e)
  · rcases r with r | r
    · exact h.d.1 r
    · exact h.ne.2.1 r
  · rcases r with r | r
    · exact h.d.2.1 r
    · exact h.ne.2.2 r
  · rcases hnew k r with e | e
    · exact h.dd k e q
    · have := (h.own9.inA_lo k q).2
      omega
theorem O1.two {wb w : World} {p b5 b6 bm : Nat} {A9 : Option Addr} {c9 : Nat} {L M : List Nat} {z : Int} (h : O1 wb w p b5 b6 bm A9 c9 L M z) : O2 wb (w.alloc (.cells #[.slice none 0 0] 43)) p b5 b6 w.heap.size A9 none c9 0 L [] M z := by
  have hb := below_alloc w (.cells #[.slice none 0 0] 43)
  have l5 := lt_heap h.x5
  have l6 := lt_heap h.x6
  refine ⟨h.st.grown (Kept.of_below hb fun _ => False) (fun _ r _ => r.elim) (fun k r => ?_), h.own.below hb, OwnC.nil_ _ _ _ _ _, blk_old h.x5 _, blk_old h.x6 _, heap_alloc_new w _, ⟨h.d.1, h.d.2.1, fun r => ?_⟩, ⟨fun r => (nomatch r), fun r => (nomatch r), fun r => (nomatch r)⟩, fun _ r => (nomatch r), ⟨h.lo.1, h.lo.2.1, h.st.below.size⟩, ⟨h.ne.1, by omega, by omega⟩⟩
  · rcases r with r | r | r | r | r
    · exact .inl (.inl r)
    · exact .inl (.inr (.inl r))
    · exact .inl (.inr (.inr (.inr r)))
    · subst r
      exact .inr ⟨Nat.le_refl _, by simp⟩
    · cases r
  · have := (h.own.inA_lo _ r).2
    omega
theorem nodup_length {L : List Nat} (h : L.Nodup) (hl : ∀ c, c ∈ L → c < 64) : L.length ≤ 64 := Sl.nodup_bound 64 L h hl
theorem order_long (A0 : Option Addr) (m c0 : Nat) (r z : Int) (hm : 60 < m) (w : World) : Calls Try.prog 4 #[.slice A0 m c0, .int .u64 r, .int .i64 z] w (ret (.bool true) w) := by
  have h3 : (60 : Int) < (m : Int) := by omega
  obtain ⟨b5, hb5⟩ : ∃ b, b = w.heap.size := ⟨_, rfl⟩
  have hB1 : Below w.heap.size w ((w.alloc (.cells #[.int .i64 z] 3)).alloc (.cells #[.bool false] 4)) := (below_alloc w _).alloc (below_alloc w _).size _
  have hz1 : ((w.alloc (.cells #[.int .i64 z] 3)).alloc (.cells #[.bool false] 4)).heap.size = w.heap.size + 2 := by simp
  have HB1 := Lib.hid hB1
  have HM1 : Hid (Mem w ((w.alloc (.cells #[.int .i64 z] 3)).alloc (.cells #[.bool false] 4)) [(b5, .cells #[.int .i64 z] 3 (0, 0)), (b5 + 1, .cells #[.bool false] 4 (0, 0))]) := Lib.hid (by
    have h := (((Mem.nil w).alloc (.cells #[.int .i64 z] 3)).alloc (.cells #[.bool false] 4))
    have r1 : (w.alloc (.cells #[.int .i64 z] 3)).heap.size = w.heap.size + 1 := by simp
    rw [r1, ← hb5] at h
    exact h)
  have HB5 := Lib.hid hb5
  have HZ1 : Hid (((w.alloc (.cells #[.int .i64 z] 3)).alloc (.cells #[.bool false] 4)).heap.size = b5 + 2) := Lib.hid (by rw [hz1, hb5])
  clear hB1 hz1
  refine (callsIn_wide (n := 13)).1 ?_
  refine callsIn_of_wp_marks Try.func4 rfl trivial ?_ rfl
  refine wpIn_wide.2 ?_
  simp only [Try.ntmps4, List.size_toArray, List.length_cons, List.length_nil, Nat.reduceAdd, Nat.reduceSub, Array.replicate_succ, Array.replicate_zero, List.push_toArray, List.append_toArray, List.nil_append, List.cons_append]
  go_upto_region 1 with fail
  rw [← hb5]
  clear hb5
  change Code.wp _ _ _ _ ((w.alloc (.cells #[.int .i64 z] 3)).alloc (.cells #[.bool false] 4))
  generalize (w.alloc (.cells #[.int .i64 z] 3)).alloc (.cells #[.bool false] 4) = u at *
  have HNW := Lib.hid (ST.new (wb := w) (X := fun k => k = b5 ∨ k = b5 + 1) u HB1.out (fun k r => by have := HZ1.out; omega) 64 2 (by omega) (by omega) (by omega) (by omega))
  go_wp2_with (first
    | (go_at_call 7
       refine HNW.out.mono ?_
       rintro e v ⟨p, rfl, hst, hbv⟩
       have HST := Lib.hid hst
       have HMV := Lib.hid (HM1.out.step hbv)
       have HBV := Lib.hid (HB1.out.trans (hbv.mono HB1.out.size))
       clear hst hbv)
    | (go_at_call 6
       refine (known_any v).mono ?_
       rintro e v2 ⟨rfl, hb2⟩
       have HM2 := Lib.hid (HMV.out.step hb2)
       have HB2 := Lib.hid (HBV.out.trans (hb2.mono HBV.out.size))
       have x6 : v2.cell? ⟨b5 + 1, 0, none⟩ = some (.bool false) := blk_cell (HM2.out.get 1 rfl) 0
       have y6 : v2.frozen? ⟨b5 + 1, 0, none⟩ = false := blk_free (HM2.out.get 1 rfl) 0
       clear hb2))
  exact ⟨_, results_flag rfl _ _ (b5 + 1) true rfl (blk_cell (blk_set (HM2.out.get 1 rfl) 0 _) 0), rfl, HB2.out.setCell (p := ⟨b5 + 1, 0, none⟩) (by rw [HB5.out]; show w.heap.size ≤ w.heap.size + 1; omega) _⟩
set_option maxHeartbeats 4000000 in
theorem order_any (A0 : Option Addr) (m c0 : Nat) (f : Nat → Int) (hf : Byt f) (hm : m ≤ 60) (hmc : m ≤ c0) (hc9 : c0 ≤ 9223372036854775807) (r z : Int) (w : World) (hr : Rd w w.heap.size A0 m f) : Calls Try.prog 4 #[.slice A0 m c0, .int .u64 r, .int .i64 z] w (ret (.bool true) w) := by
  have h3 : ¬ (60 : Int) < (m : Int) := by omega
  have HR := Lib.hid hr
  have HF := Lib.hid hf
  have hmm := @run_makeMap Try.prog
  obtain ⟨i0, hi0, hz0, hz1, hz2⟩ := info_parts Try.infoIN
  have HI0 := Lib.hid hi0
  have HZ0 := Lib.hid hz0
  have HZ1' := Lib.hid hz1
  have HZ2 := Lib.hid hz2
  clear hr hf hi0 hz0 hz1 hz2
  obtain ⟨b5, hb5⟩ : ∃ b, b = w.heap.size := ⟨_, rfl⟩
  have hB1 : Below w.heap.size w ((w.alloc (.cells #[.int .i64 z] 3)).alloc (.cells #[.bool false] 4)) := (below_alloc w _).alloc (below_alloc w _).size _
  have hz1 : ((w.alloc (.cells #[.int .i64 z] 3)).alloc (.cells #[.bool false] 4)).heap.size = w.heap.size + 2 := by simp
  have HB1 := Lib.hid hB1
  have HM1 : Hid (Mem w ((w.alloc (.cells #[.int .i64 z] 3)).alloc (.cells #[.bool false] 4)) [(b5, .cells #[.int .i64 z] 3 (0, 0)), (b5 + 1, .cells #[.bool false] 4 (0, 0))]) := Lib.hid (by
    have h := (((Mem.nil w).alloc (.cells #[.int .i64 z] 3)).alloc (.cells #[.bool false] 4))
    have r1 : (w.alloc (.cells #[.int .i64 z] 3)).heap.size = w.heap.size + 1 := by simp
    rw [r1, ← hb5] at h
    exact h)
  have HB5 := Lib.hid hb5
  have HZ1 : Hid (((w.alloc (.cells #[.int .i64 z] 3)).alloc (.cells #[.bool false] 4)).heap.size = b5 + 2) := Lib.hid (by rw [hz1, hb5])
  clear hB1 hz1
  refine (callsIn_wide (n := 13)).1 ?_
  refine callsIn_of_wp_marks Try.func4 rfl trivial ?_ rfl
  refine wpIn_wide.2 ?_
  simp only [Try.ntmps4, List.size_toArray, List.length_cons, List.length_nil, Nat.reduceAdd, Nat.reduceSub, Array.replicate_succ, Array.replicate_zero, List.push_toArray, List.append_toArray, List.nil_append, List.cons_append]
  go_upto_region 1 with fail
  rw [← hb5]
  clear hb5
  change Code.wp _ _ _ _ ((w.alloc (.cells #[.int .i64 z] 3)).alloc (.cells #[.bool false] 4))
  generalize (w.alloc (.cells #[.int .i64 z] 3)).alloc (.cells #[.bool false] 4) = u at *
  have HNW := Lib.hid (ST.new (wb := w) (X := fun k => k = b5 ∨ k = b5 + 1) u HB1.out (fun k r => by have := HZ1.out; omega) 64 2 (by omega) (by omega) (by omega) (by omega))
  go_upto_region 8 with (first
    | (go_at_call 7
       refine HNW.out.mono ?_
       rintro e v ⟨p, rfl, hst, hbv⟩
       have HST := Lib.hid hst
       have HMV := Lib.hid (HM1.out.step hbv)
       have HBV := Lib.hid (HB1.out.trans (hbv.mono HB1.out.size))
       clear hst hbv))
  have HO0 : Hid (O1 w (v.alloc (.map #[] 0)) p b5 (b5 + 1) v.heap.size none 0 [] [] z) := Lib.hid (by
    have hba := below_alloc v (.map #[] 0)
    have l5 := lt_heap (HMV.out.get 0 rfl)
    have l6 := lt_heap (HMV.out.get 1 rfl)
    refine ⟨(HST.out.grown (Kept.of_below hba fun _ => False) (fun _ r _ => r.elim) (fun k r => ?_)), OwnC.nil_ _ _ _ _ _, amap_new v kvI, blk_old (HMV.out.get 0 rfl) _, blk_old (HMV.out.get 1 rfl) _, ⟨fun r => (nomatch r), fun r => (nomatch r), fun r => (nomatch r)⟩, ⟨by rw [HB5.out]; omega, by rw [HB5.out]; omega, HBV.out.size⟩, ⟨by omega, by omega, by omega⟩, List.nodup_nil, fun c h => (nomatch h)⟩
    rcases r with r | r | r | r
    · exact .inl (.inl r)
    · exact .inl (.inr r)
    · subst r
      exact .inr ⟨Nat.le_refl _, by simp⟩
    · cases r)
  obtain ⟨bm, hbm⟩ : ∃ b, b = v.heap.size := ⟨_, rfl⟩
  rw [← hbm] at HO0 ⊢
  clear hbm HST HMV HBV HB1 HM1 HZ1 HNW
  change Code.wp _ _ _ _ (v.alloc (.map #[] 0))
  generalize v.alloc (.map #[] 0) = v1 at *
  go_wp2_with fail
  go_loopw [9, 43] (fun v9 v43 wr => ∃ (k : Nat) (A9 : Option Addr) (c9 : Nat) (L : List Nat), k ≤ m ∧ v43 = .int .i64 (k : Int) ∧ v9 = .slice A9 L.length c9 ∧ O1 w wr p b5 (b5 + 1) bm A9 c9 L L z) (fun _ v _ => m - (intOf v).toNat)
  case atStart => exact ⟨0, none, 0, [], Nat.zero_le _, rfl, rfl, HO0.out⟩
  case round =>
    obtain ⟨k, A9, c9, L, hkm0, rfl, rfl, ho⟩ := hrel
    have HO := Lib.hid ho
    clear ho
    obtain ⟨nL, hnL⟩ : ∃ n, n = L.length := ⟨_, rfl⟩
    have HNL := Lib.hid hnL
    rw [← hnL]
    clear hnL
    by_cases hkm : k < m
    · have hkm' : (k : Int) < (m : Int) := by omega
      have k0 : (0 : Int) ≤ (k : Int) := by omega
      have zk : IntKind.i64.wrap ((k : Int) + 1) = (k : Int) + 1 := by rw [IntKind.wrap_i64]; omega
      rcases HR.out with h0 | ⟨bA, off, rfl, hbl, hcl⟩
      · omega
      have xk : wr.cell? ⟨bA, off + k, none⟩ = some (.int .u8 (f k)) := (HO.out.st.below.cell (p := ⟨bA, off + k, none⟩) hbl).trans (hcl k hkm)
      have hfk := HF.out k
      have zf : IntKind.i64.wrap (f k) = f k := by rw [IntKind.wrap_i64]; omega
      obtain ⟨c, hc⟩ : ∃ c : Nat, f k % 64 = (c : Int) := Int.eq_ofNat_of_zero_le (by omega)
      have hc64 : c < 64 := by omega
      have HFIT := Lib.hid (stK_fit HO.out.nd HO.out.lt)
      go_upto_region 12 with fail
      clear xk zf hfk hbl hcl
      have HPU := Lib.hid (HO.out.st.push HFIT.out 1 (c : Int))
      have HCC := Lib.hid hc
      by_cases hcL : c ∈ L
      · obtain ⟨e1, e2⟩ := stK_push_old HFIT.out hc64 hcL
        rw [e1, e2] at HPU
        have HCL := Lib.hid hcL
        clear e1 e2 hcL
        go_upto_region 13 with (first
          | (go_at_call 9
             refine HPU.out.mono ?_
             rintro e u1 ⟨rfl, hst, hk⟩
             have HO1 := Lib.hid (HO.out.turn hst hk)
             clear hst hk))
        have hlk : (Instr.lookup 44 (.map (some bm)) (.int .i64 (c : Int)) false).run Try.prog u1 = .ok (.bool true) u1 := by
          rw [look_set HO1.out.mp, show decide (c ∈ L) = true from decide_eq_true HCL.out]
        obtain ⟨u2, hrun, hmp2, hkp2⟩ := put_set HO1.out.mp c
        rw [if_pos HCL.out] at hmp2
        have HO2 := Lib.hid (HO1.out.again hmp2 hkp2)
        clear hmp2 hkp2
        go_wp2_with fail
        go_roundw
        case rel => exact ⟨k + 1, A9, c9, L, by omega, by go_num, by rw [← HNL.out], HO2.out⟩
        case measure => simp [intOf]; omega
      · obtain ⟨e1, e2⟩ := stK_push_new HFIT.out hc64 hcL
        rw [e1, e2] at HPU
        have HCL := Lib.hid hcL
        clear e1 e2 hcL
        go_upto_region 13 with (first
          | (go_at_call 9
             refine HPU.out.mono ?_
             rintro e u1 ⟨rfl, hst, hk⟩
             have HO1 := Lib.hid (HO.out.turn hst hk)
             clear hst hk))
        have hlk : (Instr.lookup 44 (.map (some bm)) (.int .i64 (c : Int)) false).run Try.prog u1 = .ok (.bool false) u1 := by
          rw [look_set HO1.out.mp, show decide (c ∈ L) = false from decide_eq_false HCL.out]
        have hlen : nL ≤ 64 := by
          have := nodup_length HO1.out.nd HO1.out.lt
          rw [HNL.out]
          exact this
        have HO6 : Hid (OwnC (u1.alloc (.cells #[.int .i64 (c : Int)] 3)) w.heap.size 3 1 A9 nL c9 (ints L)) := Lib.hid (by rw [HNL.out]; exact HO1.out.own.alloc _)
        have HB6 : Hid (Below u1.heap.size u1 (u1.alloc (.cells #[.int .i64 (c : Int)] 3))) := Lib.hid (below_alloc u1 _)
        have HW6 : Hid (w.heap.size ≤ (u1.alloc (.cells #[.int .i64 (c : Int)] 3)).heap.size) := Lib.hid (Nat.le_trans HO1.out.st.below.size HB6.out.size)
        have HR6 : Hid (RdC (u1.alloc (.cells #[.int .i64 (c : Int)] 3)) (u1.alloc (.cells #[.int .i64 (c : Int)] 3)).heap.size (some ⟨u1.heap.size, 0, none⟩) (1 * 1) (fun _ => .int .i64 (c : Int))) := Lib.hid (.inr ⟨_, 0, rfl, by simp, fun j hj => by
          obtain rfl : j = 0 := by omega
          exact blk_cell (heap_alloc_new u1 _) 0⟩)
        go_upto_region 17 with (first
          | (at_builtin
             refine wpList_append_vals rfl (.tmp 72) (.tmp 74) 43 rfl w.heap.size 3 i0 (.int .i64 0) 1 Try.underlying43 HI0.out HZ0.out HZ1'.out rfl (by decide) rfl HO6.out rfl HR6.out (fun _ _ => rfl) (by unfold maxLen; omega) (by rw [HZ2.out]; omega) HW6.out ?_
             intro A2 c2 u5 hown5 hg5 ho5
             have HOW5 : Hid (OwnC u5 w.heap.size 3 1 A2 (nL + 1) c2 (ints (L ++ [c]))) := Lib.hid (by
               refine hown5.same fun j hj => ?_
               unfold catV ints
               rw [List.getElem?_append]
               by_cases e : j < nL
               · rw [if_pos (by rw [← HNL.out]; exact e), if_pos (by omega)]
               · obtain rfl : j = nL := by omega
                 rw [if_neg (by rw [← HNL.out]; omega), if_neg (by omega), ← HNL.out, Nat.sub_self]
                 rfl)
             have HG5 := Lib.hid hg5
             have HOO5 := Lib.hid ho5
             clear hown5 hg5 ho5))
        have hln : (L ++ [c]).length = nL + 1 := by rw [List.length_append, ← HNL.out]; rfl
        have hmp5 : AMap u5 bm kvI (asetL L) := ((HO1.out.mp.step HB6.out).block ((HO6.out.grown_kept HG5.out).block bm (Nat.lt_of_lt_of_le HO1.out.mp.lt HB6.out.size) HO1.out.d.2.2))
        obtain ⟨u2, hrun, hmp2, hkp2⟩ := put_set hmp5 c
        rw [if_neg HCL.out] at hmp2
        have HO2 : Hid (O1 w u2 p b5 (b5 + 1) bm A2 c2 (L ++ [c]) (L ++ [c]) z) := Lib.hid (by
          refine HO1.out.app HB6.out (by rw [← HNL.out]; exact HG5.out) (by rw [hln, ← HNL.out]; exact HOO5.out) (by rw [hln]; exact HOW5.out) hmp2 hkp2 ?_ fun d hd => ?_
          · rw [List.nodup_append]
            refine ⟨HO1.out.nd, by simp, fun a ha b hb e => ?_⟩
            simp at hb
            subst hb; subst e
            exact HCL.out ha
          · rcases List.mem_append.1 hd with hd | hd
            · exact HO1.out.lt d hd
            · simp at hd
              omega)
        clear hmp5 hmp2 hkp2 hlk
        go_wp2_with fail
        go_roundw
        case rel => exact ⟨k + 1, A2, c2, L ++ [c], by omega, by go_num, by rw [hln], HO2.out⟩
        case measure => simp [intOf]; omega
    · obtain rfl : k = m := by omega
      have hkm' : ¬ (k : Int) < (k : Int) := by omega
      have HND := Lib.hid HO.out.nd
      have HLT := Lib.hid HO.out.lt
      have hnl : nL ≤ 64 := by rw [HNL.out]; exact nodup_length HO.out.nd HO.out.lt
      have HT0 := Lib.hid HO.out.two
      clear hkm
      go_upto_region 21 with fail
      obtain ⟨b15, hb15⟩ : ∃ b, b = wr.heap.size := ⟨_, rfl⟩
      rw [← hb15] at HT0 ⊢
      clear hb15 HO
      generalize wr.alloc (.cells #[.slice none 0 0] 43) = v2 at *
      go_loopw [81] (fun v wr2 => ∃ (j : Nat) (A15 : Option Addr) (c15 : Nat) (Q : List Nat), j ≤ nL ∧ v = .int .i64 (j : Int) ∧ O2 w wr2 p b5 (b5 + 1) b15 A9 A15 c9 c15 L Q (Q ++ L.drop j) z ∧ Q.Sublist (L.take j)) (fun v _ => nL - (intOf v).toNat)
      case atStart => exact ⟨0, none, 0, [], Nat.zero_le _, rfl, HT0.out, List.Sublist.refl _⟩
      case round =>
        obtain ⟨j, A15, c15, Q, hjn, rfl, ho, hq⟩ := hrel
        have HP := Lib.hid ho
        have HQ := Lib.hid hq
        clear ho hq
        by_cases hlj : j < nL
        · have hlj' : (j : Int) < (nL : Int) := by omega
          have j0 : (0 : Int) ≤ (j : Int) := by omega
          have zj : IntKind.i64.wrap ((j : Int) + 1) = (j : Int) + 1 := by rw [IntKind.wrap_i64]; omega
          obtain ⟨c, hcj⟩ : ∃ c, L[j]? = some c := ⟨_, List.getElem?_eq_getElem (by rw [← HNL.out]; exact hlj)⟩
          obtain ⟨g9, rfl, _, _, hcl, _⟩ := HP.out.own9.lies (by rw [← HNL.out]; omega)
          have xc : wr.cell? ⟨g9, j, none⟩ = some (.int .i64 (c : Int)) := by
            rw [← ints_at hcj]
            exact hcl j (by rw [← HNL.out]; omega)
          have hdr : L.drop j = c :: L.drop (j + 1) := by
            obtain ⟨h1, h2⟩ := List.getElem?_eq_some_iff.1 hcj
            rw [List.drop_eq_getElem_cons h1, h2]
          have hc64 : c < 64 := HLT.out c (List.mem_of_getElem? hcj)
          have HDR := Lib.hid hdr
          have HCJ := Lib.hid hcj
          obtain ⟨nQ, hnQ⟩ : ∃ n, n = Q.length := ⟨_, rfl⟩
          have HNQ := Lib.hid hnQ
          have hq9 : nQ ≤ 64 := by
            have h1 := HQ.out.length_le
            rw [List.length_take] at h1
            rw [hnQ]
            omega
          have HNQ9 := Lib.hid hq9
          clear hcl hdr hcj hnQ
          have x15 : wr.cell? ⟨b15, 0, none⟩ = some (.slice A15 nQ c15) := by rw [HNQ.out]; exact blk_cell HP.out.x15 0
          have hnd2 : (Q ++ c :: L.drop (j + 1)).Sublist L := by
            rw [← HDR.out]
            have h1 : (Q ++ L.drop j).Sublist (L.take j ++ L.drop j) := HQ.out.append (List.Sublist.refl _)
            rwa [List.take_append_drop] at h1
          have hf2 := stK_fit (HND.out.sublist hnd2) fun d hd => HLT.out d (hnd2.subset hd)
          have hst2 := HP.out.st
          rw [HDR.out] at hst2
          obtain ⟨e1, e2⟩ := stK_rem hf2 hc64
          have hrm := hst2.remove hf2 (c : Int)
          rw [e1, e2] at hrm
          have HRM := Lib.hid hrm
          have htk : L.take (j + 1) = L.take j ++ [c] := by rw [List.take_add_one, HCJ.out]; rfl
          have HTK := Lib.hid htk
          clear hnd2 hf2 hst2 e1 e2 hrm htk
          have HO6 : Hid (OwnC (wr.alloc (.cells #[.int .i64 (c : Int)] 3)) w.heap.size 3 1 A15 nQ c15 (ints Q)) := Lib.hid (by rw [HNQ.out]; exact HP.out.own.alloc _)
          have HB6 : Hid (Below wr.heap.size wr (wr.alloc (.cells #[.int .i64 (c : Int)] 3))) := Lib.hid (below_alloc wr _)
          have HW6 : Hid (w.heap.size ≤ (wr.alloc (.cells #[.int .i64 (c : Int)] 3)).heap.size) := Lib.hid (Nat.le_trans HP.out.st.below.size HB6.out.size)
          have HR6 : Hid (RdC (wr.alloc (.cells #[.int .i64 (c : Int)] 3)) (wr.alloc (.cells #[.int .i64 (c : Int)] 3)).heap.size (some ⟨wr.heap.size, 0, none⟩) (1 * 1) (fun _ => .int .i64 (c : Int))) := Lib.hid (.inr ⟨_, 0, rfl, by simp, fun j hj => by
            obtain rfl : j = 0 := by omega
            exact blk_cell (heap_alloc_new wr _) 0⟩)
          go_upto_region 24 with fail
          · go_wp2_with (first
              | (at_builtin
                 refine wpList_append_vals rfl (.tmp 91) (.tmp 93) 43 rfl w.heap.size 3 i0 (.int .i64 0) 1 Try.underlying43 HI0.out HZ0.out HZ1'.out rfl (by decide) rfl HO6.out rfl HR6.out (fun _ _ => rfl) (by unfold maxLen; omega) (by rw [HZ2.out]; omega) HW6.out ?_
                 intro A2 c2 u5 hown5 hg5 ho5
                 have HOW5 : Hid (OwnC u5 w.heap.size 3 1 A2 (nQ + 1) c2 (ints (Q ++ [c]))) := Lib.hid (by
                   refine hown5.same fun j hj => ?_
                   unfold catV ints
                   rw [List.getElem?_append]
                   by_cases e : j < nQ
                   · rw [if_pos (by rw [← HNQ.out]; exact e), if_pos (by omega)]
                   · obtain rfl : j = nQ := by omega
                     rw [if_neg (by rw [← HNQ.out]; omega), if_neg (by omega), ← HNQ.out, Nat.sub_self]
                     rfl)
                 have HG5 := Lib.hid hg5
                 have HOO5 := Lib.hid ho5
                 have hk15 := ((HO6.out.grown_kept hg5).block b15 (Nat.lt_of_lt_of_le (lt_heap HP.out.x15) HB6.out.size) HP.out.d.2.2).trans ((HB6.out.block b15 (lt_heap HP.out.x15)).trans HP.out.x15)
                 have y15 : u5.cell? ⟨b15, 0, none⟩ = some (.slice A15 Q.length c15) := blk_cell hk15 0
                 have z15 : u5.frozen? ⟨b15, 0, none⟩ = false := blk_free hk15 0
                 clear hown5 hg5 ho5 hk15))
            have hln : (Q ++ [c]).length = nQ + 1 := by rw [List.length_append, ← HNQ.out]; rfl
            have HP2 := Lib.hid (HP.out.app (Q2 := Q ++ [c]) HB6.out (by rw [← HNQ.out]; exact HG5.out) (by rw [hln, ← HNQ.out]; exact HOO5.out) (by rw [hln]; exact HOW5.out))
            go_roundw
            case rel =>
              refine ⟨j + 1, A2, c2, Q ++ [c], by omega, by go_num, ?_, ?_⟩
              · have := HP2.out
                rw [hln, HDR.out] at this
                rw [List.append_assoc]
                exact this
              · rw [HTK.out]
                exact HQ.out.append (List.Sublist.refl _)
            case measure => simp [intOf]; omega
          · refine HRM.out.mono ?_
            rintro e u3 ⟨rfl, hst, hk⟩
            have HP3 := Lib.hid (HP.out.turn hst hk)
            clear hst hk
            go_wp2_with fail
            go_roundw
            case rel =>
              refine ⟨j + 1, A15, c15, Q, by omega, by go_num, HP3.out, ?_⟩
              rw [HTK.out]
              exact HQ.out.trans (List.sublist_append_left _ _)
            case measure => simp [intOf]; omega
        · obtain rfl : j = nL := by omega
          have hlj' : ¬ (j : Int) < (j : Int) := by omega
          have hdn : L.drop j = [] := by rw [HNL.out, List.drop_length]
          have hst0 := HP.out.st
          rw [hdn, List.append_nil] at hst0
          have HST0 := Lib.hid hst0
          have hsub : Q.Sublist L := HQ.out.trans (List.take_sublist _ _)
          have HFQN := Lib.hid (HND.out.sublist hsub)
          have HFQL : Hid (∀ d, d ∈ Q → d < 64) := Lib.hid fun d hd => HLT.out d (hsub.subset hd)
          have HFQ := Lib.hid (stK_fit (HND.out.sublist hsub) fun d hd => HLT.out d (hsub.subset hd))
          obtain ⟨Y, Am, hIt⟩ := it_st w p HFQ.out 1
          rw [stK_of1] at hIt
          have HIT := Lib.hid hIt
          have hfn : ∀ (lb : Array Value) (W : World), (binOp BinOp.eql 46 (.func (.func 33) #[] lb) .nilFunc).run Try.prog W = .ok (.bool false) W := fun lb W => by kernel_rfl
          obtain ⟨nQ, hnQ⟩ : ∃ n, n = Q.length := ⟨_, rfl⟩
          have HNQ := Lib.hid hnQ
          have hq9 : nQ ≤ 64 := by
            have h1 := hsub.length_le
            have h2 := HNL.out
            rw [hnQ]
            omega
          clear hlj hdn hst0 hsub hIt hnQ
          go_upto_region 30 with (first
            | (go_at_call 19
               refine (pof_any wr _ _).mono ?_
               rintro e v4 ⟨rfl, hv4⟩
               have HB4 : Hid (Below wr.heap.size wr v4) := Lib.hid (by rw [hv4]; exact (below_alloc wr _).alloc (below_alloc wr _).size _)
               clear hv4))
          obtain ⟨lb1, hlb1⟩ : ∃ lb : Array Value, lb = #[.pointer (some ⟨wr.heap.size, 0, none⟩), .pointer (some ⟨wr.heap.size + 1, 0, none⟩)] := ⟨_, rfl⟩
          rw [← hlb1]
          clear hlb1
          have HP4 := Lib.hid (HP.out.turn (M' := Q) (HST0.out.step HB4.out) fun k r => HB4.out.block k (HST0.out.lt k r))
          clear HP HST0 HB4
          go_upto_region 31 with fail
          obtain ⟨b18, hb18⟩ : ∃ b, b = v4.heap.size := ⟨_, rfl⟩
          have HB6 : Hid (Below v4.heap.size v4 (v4.alloc (.cells #[.int .i64 0] 3))) := Lib.hid (below_alloc v4 _)
          have HST6 : Hid (ST w p (stK Q) (Or2 (fun k => k = b5 ∨ k = b5 + 1 ∨ InA A9 k ∨ k = b15 ∨ InA A15 k) (fun k => k = b18)) (v4.alloc (.cells #[.int .i64 0] 3))) := Lib.hid (HP4.out.st.more HB6.out fun k e => by rw [e, hb18]; simp)
          have HP6 := Lib.hid (HP4.out.turn (M' := Q) (HP4.out.st.step HB6.out) fun k r => HB6.out.block k (HP4.out.st.lt k r))
          have HN6 : Hid ((v4.alloc (.cells #[.int .i64 0] 3)).heap[b18]? = some (.cells #[.int .i64 ((0 : Nat) : Int)] 3 (0, 0))) := Lib.hid (by rw [hb18]; exact heap_alloc_new v4 _)
          have HLT6 : Hid (∀ k, (k = b5 ∨ k = b5 + 1 ∨ InA A9 k ∨ k = b15 ∨ InA A15 k) → k < b18) := Lib.hid fun k r => by rw [hb18]; exact HP4.out.st.lt k r
          change Code.wp _ _ _ _ (v4.alloc (.cells #[.int .i64 0] 3))
          generalize v4.alloc (.cells #[.int .i64 0] 3) = v6 at *
          rw [← hb18]
          clear hb18 HP4 HB6
          go_wp2_with (first
            | (go_at_call 19
               refine (pof_any v6 _ _).mono ?_
               rintro e v5 ⟨rfl, hv5⟩
               have HV5 := Lib.hid hv5
               clear hv5))
          obtain ⟨bp, hbp⟩ : ∃ b, b = v6.heap.size := ⟨_, rfl⟩
          have HBB : Hid (Below v6.heap.size v6 v5) := Lib.hid (by rw [HV5.out]; exact (below_alloc v6 _).alloc (below_alloc v6 _).size _)
          have hz5 : v5.heap.size = bp + 2 := by rw [HV5.out, hbp]; simp
          have HBP : Hid (v5.heap[bp]? = some (.cells #[.pointer (some ⟨p, 0, none⟩)] 24 (0, 0))) := Lib.hid (by
            rw [HV5.out, hbp]
            exact blk_old (heap_alloc_new v6 _) _)
          have HBW : Hid (v5.heap[bp + 1]? = some (.cells #[.int .i64 1] 3 (0, 0))) := Lib.hid (by
            rw [HV5.out, hbp]
            have h := heap_alloc_new (v6.alloc (.cells #[.pointer (some ⟨p, 0, none⟩)] 24)) (.cells #[.int .i64 1] 3)
            have hz : (v6.alloc (.cells #[.pointer (some ⟨p, 0, none⟩)] 24)).heap.size = v6.heap.size + 1 := by simp
            rwa [hz] at h)
          obtain ⟨X1, hX1⟩ : ∃ X1, X1 = Or2 (fun k => k = b5 ∨ k = b5 + 1 ∨ InA A9 k ∨ k = b15 ∨ InA A15 k) (fun k => k = b18) := ⟨_, rfl⟩
          rw [← hX1] at HST6
          have HLT : Hid (∀ k, X1 k → k < bp) := Lib.hid fun k r => by rw [hbp]; exact HST6.out.lt k r
          have HS5 : Hid (ST w p (stK Q) (Or2 X1 (fun k => k = bp ∨ k = bp + 1)) v5) := Lib.hid (HST6.out.more HBB.out fun k hk => by omega)
          have HP5 := Lib.hid (HP6.out.turn (M' := Q) (HP6.out.st.step HBB.out) fun k r => HBB.out.block k (HP6.out.st.lt k r))
          have HN5 : Hid (v5.heap[b18]? = some (.cells #[.int .i64 ((0 : Nat) : Int)] 3 (0, 0))) := Lib.hid ((HBB.out.block b18 (lt_heap HN6.out)).trans HN6.out)
          have HXV : Hid (X1 b5 ∧ X1 (b5 + 1) ∧ X1 b15 ∧ X1 b18 ∧ ∀ k, InA A15 k → X1 k) := Lib.hid (by
            rw [hX1]
            exact ⟨.inl (.inl rfl), .inl (.inr (.inl rfl)), .inl (.inr (.inr (.inr (.inl rfl)))), .inr rfl, fun k r => .inl (.inr (.inr (.inr (.inr r))))⟩)
          have HNE : Hid (b5 ≠ b18 ∧ b5 + 1 ≠ b18 ∧ b15 ≠ b18 ∧ ∀ k, InA A15 k → k ≠ b18) := Lib.hid (by
            refine ⟨?_, ?_, ?_, fun k r => ?_⟩
            · have := HLT6.out b5 (.inl rfl); omega
            · have := HLT6.out (b5 + 1) (.inr (.inl rfl)); omega
            · have := HLT6.out b15 (.inr (.inr (.inr (.inl rfl)))); omega
            · have := HLT6.out k (.inr (.inr (.inr (.inr r)))); omega)
          have HL18 : Hid (w.heap.size ≤ b18) := Lib.hid (Nat.le_trans HP5.out.lo.2.2 (Nat.le_of_lt (HLT6.out b15 (.inr (.inr (.inr (.inl rfl)))))))
          rw [← hbp]
          clear HV5 HBB HST6 HP6 HN6 hbp hX1 hz5
          refine (wpIn_wide (n := 13)).1 ?_
          refine wpIn_rangeFunc_U (γ := Nat × Nat) (α := Nat) (n := 13) rfl (by omega) (gf := 33) (lb := #[.pointer (some ⟨bp, 0, none⟩), .pointer (some ⟨bp + 1, 0, none⟩)]) rfl trivial (fun args w => enters_of Try.func33 (by kernel_rfl) rfl args w)
            (HIT.out.iter bp (bp + 1)) (fun _ => rfl) X1 (fun k => k = v5.heap.size ∨ k = v5.heap.size + 1) (fun k q => by have := HLT.out k q; have := lt_heap HBP.out; omega) rfl
            ?hY ?hA ?hZd ?hZs ?hZ0
            (fun Xi pre U => Xi = X1 ∧ (∀ k, X1 k → k ≠ b18 → U.heap[k]? = v5.heap[k]?) ∧ U.heap[b18]? = some (.cells #[.int .i64 (pre.length : Int)] 3 (0, 0)))
            (fun c Xi _ U => c = .exit 4 ∧ Xi = X1 ∧ (∀ k, X1 k → k ≠ b18 → U.heap[k]? = v5.heap[k]?) ∧ ∃ y : Int, U.heap[b18]? = some (.cells #[.int .i64 y] 3 (0, 0)))
            ?hI ?hIx ⟨rfl, fun _ _ _ => rfl, HN5.out⟩
            (fun x => { tmps := #[Value.slice A0 k c0, Value.int IntKind.u64 r, Value.int IntKind.i64 z, undef, undef, Value.pointer (some { block := b5, off := 0 }), Value.pointer (some { block := b5 + 1, off := 0 }), Value.pointer (some { block := p, off := 0 }), Value.int IntKind.i64 0, Value.slice A9 j c9, Value.map (some bm), undef, u12, u13, u14, Value.pointer (some { block := b15, off := 0 }), u16, u17, Value.pointer (some { block := b18, off := 0 }), Value.int IntKind.i64 (x : Int), undef, undef, undef, undef, undef, undef, Value.tuple #[Value.pointer (some { block := p, off := 0 }), Value.int IntKind.i64 0], Value.tuple #[Value.pointer (some { block := p, off := 0 }), Value.int IntKind.i64 0], Value.pointer (some { block := p, off := 0 }), Value.int IntKind.i64 0, Value.pointer (some { block := p, off := 0 }), Value.bool false, Value.bool false, Value.int IntKind.i64 0, Value.bool false, Value.bool false, Value.slice A0 k c0, Value.int IntKind.i64 (k : Int), Value.bool (decide ((60 : Int) < (k : Int))), undef, Value.map (some bm), Value.slice A0 k c0, Value.int IntKind.i64 (k : Int), Value.int IntKind.i64 (k : Int), Value.bool false, u45, u46, u47, u48, u49, u50, u51, u52, u53, u54, u55, u56, u57, u58, u59, u60, u61, u62, u63, u64, u65, u66, u67, u68, u69, u70, u71, u72, u73, u74, u75, u76, u77, u78, Value.slice A9 j c9, Value.int IntKind.i64 (j : Int), Value.int IntKind.i64 (j : Int), Value.bool false, u83, u84, u85, u86, u87, u88, u89, u90, u91, u92, u93, u94, u95, u96, u97, u98, u99, Value.pointer (some { block := p, off := 0 }), Value.func (Fn.func 33) #[] lb1, Value.bool false, Value.pointer (some { block := p, off := 0 }), Value.func (Fn.func 33) #[] #[Value.pointer (some { block := bp, off := 0 }), Value.pointer (some { block := bp + 1, off := 0 })], Value.int IntKind.i64 (x : Int), undef, undef, undef, undef, undef, undef, undef, undef, undef, undef, undef, undef, undef, undef, undef, undef, undef, undef, undef, undef, undef, undef, undef, undef, undef, undef, undef, undef, undef, undef, undef, undef, undef, undef, undef, undef, undef, undef, undef, undef, undef, undef, undef, undef, undef, undef, undef, undef, undef, undef, undef, undef, undef, undef, undef, undef], defers := [] }) ?assign ?body ?done ?stop
          case hY => exact fun g X2 pre x U l1 o1 h1 h2 h3 => HIT.out.yk h3 (kept_put l1 o1) fun k e _ => by subst e; exact ⟨h2, Nat.le_trans HS5.out.below.size h1⟩
          case hA => exact fun g X2 pre U l1 o1 h1 h2 h3 => HIT.out.ak h3 (kept_put l1 o1) fun k e _ => by subst e; exact ⟨h2, Nat.le_trans HS5.out.below.size h1⟩
          case hZd => exact fun X2 pre U l1 o1 h1 h2 h3 => ⟨h3.1, HIT.out.put h3.2 (Nat.le_trans HS5.out.below.size h1) h2 o1⟩
          case hZs => exact fun X2 pre U l1 o1 h1 h2 h3 => ⟨h3.1, HIT.out.put h3.2 (Nat.le_trans HS5.out.below.size h1) h2 o1⟩
          case hZ0 =>
            intro o1
            have hb2 : Below v5.heap.size v5 ((v5.alloc (.deferred (some []))).alloc o1) := (below_alloc v5 _).alloc (below_alloc v5 _).size _
            refine ⟨HIT.out.less (HIT.out.more (X' := fun k => k = v5.heap.size ∨ k = v5.heap.size + 1) HS5.out hb2 fun k hk => by simp; omega) fun k hk => ?_, fun k hk hx => ?_, (hb2.block bp (lt_heap HBP.out)).trans HBP.out, (hb2.block (bp + 1) (lt_heap HBW.out)).trans HBW.out⟩
            · rcases hk with (hk | hk) | hk
              · exact .inl (.inl hk)
              · exact .inr hk
              · exact .inl (.inr hk)
            · have hp5 := lt_heap HBW.out
              rcases hx with hx | hx
              · have := HLT.out k hx
                omega
              · omega
          case hI =>
            rintro Xi s1 U U' ⟨rfl, h1, h2⟩ hs hk
            exact ⟨rfl, fun k q e => (hk k q).trans (h1 k q e), (hk b18 HXV.out.2.2.2.1).trans h2⟩
          case hIx =>
            rintro c' Xi s1 U U' ⟨rfl, rfl, h1, y, h2⟩ hs hk
            exact ⟨rfl, rfl, fun k q e => (hk k q).trans (h1 k q e), y, (hk b18 HXV.out.2.2.2.1).trans h2⟩
          case assign =>
            intro l1 x U K hK
            unfold nEnc
            gi_wp2
            simpa using hK
          case body =>
            rintro lk g Xi K pre x U ⟨hXi, h1, h2⟩ hy hK
            subst hXi
            have hpre := HIT.out.ypre hy
            have hlen : pre.length < Q.length := by
              have := hpre.length_le
              rw [List.length_append] at this
              exact this
            have hLx : Q[pre.length]? = some x := by
              obtain ⟨t, ht⟩ := hpre
              rw [← ht]
              simp
            obtain ⟨i, hi⟩ : ∃ i, i = pre.length := ⟨_, rfl⟩
            rw [← hi] at h2 hlen hLx
            have HH1 := Lib.hid h1
            have HH2 := Lib.hid h2
            have HYY := Lib.hid hy
            have HKK := Lib.hid hK
            have HI := Lib.hid hi
            have x18 : U.cell? ⟨b18, 0, none⟩ = some (.int .i64 (i : Int)) := blk_cell h2 0
            have y18 : U.frozen? ⟨b18, 0, none⟩ = false := blk_free h2 0
            have x15 : U.cell? ⟨b15, 0, none⟩ = some (.slice A15 nQ c15) := by rw [HNQ.out]; exact blk_cell ((h1 b15 HXV.out.2.2.1 HNE.out.2.2.1).trans HP5.out.x15) 0
            have x5 : U.cell? ⟨b5, 0, none⟩ = some (.int .i64 z) := blk_cell ((h1 b5 HXV.out.1 HNE.out.1).trans HP5.out.x5) 0
            have hiQ : i < nQ := by rw [HNQ.out]; exact hlen
            obtain ⟨gq, hgq, _, _, hcl, _⟩ := HP5.out.own.lies (by rw [← HNQ.out]; omega)
            have xe : U.cell? ⟨gq, i, none⟩ = some (.int .i64 (x : Int)) := by
              rw [kept_cell_block (p := ⟨gq, i, none⟩) (h1 gq (HXV.out.2.2.2.2 gq hgq) (HNE.out.2.2.2 gq hgq)), hcl i (by rw [← HNQ.out]; omega), ints_at hLx]
            have hcq := HP5.out.own.cap
            have hcq9 := HP5.out.own.cap_le
            unfold maxLen at hcq9
            rw [← HNQ.out] at hcq
            subst hgq
            have i0 : (0 : Int) ≤ (i : Int) := by omega
            have i1 : (i : Int) < (nQ : Int) := by omega
            have i2 : ¬ (nQ : Int) ≤ (i : Int) := by omega
            have hxx : ((x : Int) != (x : Int)) = false := by simp
            have zi : IntKind.i64.wrap ((i : Int) + 1) = ((i : Int) + 1) := by rw [IntKind.wrap_i64]; omega
            have hbk : Am g (Or2 Xi K) (pre ++ [x]) (U.setCell ⟨b18, 0, none⟩ (.int .i64 ((i : Int) + 1))) ∧ ∀ k, K k → ¬ Xi k ∧ (U.setCell ⟨b18, 0, none⟩ (.int .i64 ((i : Int) + 1))).heap[k]? = U.heap[k]? := ⟨HIT.out.ak (HIT.out.ya HYY.out) (kept_set b18 _) fun k e _ => by subst e; exact ⟨.inl HXV.out.2.2.2.1, HL18.out⟩, fun k q => ⟨HKK.out k q, Below.heap_setCell U ⟨b18, 0, none⟩ _ k fun e => HKK.out k q (by
              have e : k = b18 := e
              subst e
              exact HXV.out.2.2.2.1)⟩⟩
            have HBK := Lib.hid hbk
            have hsame : ∀ k, Xi k → k ≠ b18 → (U.setCell ⟨b18, 0, none⟩ (.int .i64 ((i : Int) + 1))).heap[k]? = v5.heap[k]? := fun k q e => (Below.heap_setCell U ⟨b18, 0, none⟩ _ k e).trans (h1 k q e)
            have HSM := Lib.hid hsame
            have h18 : (U.setCell ⟨b18, 0, none⟩ (.int .i64 ((i : Int) + 1))).heap[b18]? = some (.cells #[.int .i64 ((i : Int) + 1)] 3 (0, 0)) := blk_set h2 0 _
            have H18 := Lib.hid h18
            have x18' : (U.setCell ⟨b18, 0, none⟩ (.int .i64 ((i : Int) + 1))).cell? ⟨b18, 0, none⟩ = some (.int .i64 ((i : Int) + 1)) := blk_cell h18 0
            have x5' : (U.setCell ⟨b18, 0, none⟩ (.int .i64 ((i : Int) + 1))).cell? ⟨b5, 0, none⟩ = some (.int .i64 z) := blk_cell ((hsame b5 HXV.out.1 HNE.out.1).trans HP5.out.x5) 0
            clear h1 h2 hy hK hi hpre hlen hLx hcl hbk hsame h18
            by_cases hzz : z < ((i : Int) + 1)
            · gi_wp2
              exact ⟨Xi, ⟨rfl, rfl, HSM.out, _, H18.out⟩, HBK.out.1, HBK.out.2⟩
            · gi_wp2
              refine ⟨Xi, ⟨rfl, HSM.out, ?_⟩, HBK.out.1, HBK.out.2⟩
              have e : ((pre ++ [x]).length : Int) = ((i : Int) + 1) := by rw [List.length_append, HI.out]; simp
              rw [e]
              exact H18.out
          case done =>
            rintro Xi xs U ⟨hXi, h1, h2⟩ ⟨hxs, hz⟩ hd hK
            subst hXi
            obtain ⟨X4, hX4⟩ : ∃ X4, X4 = Or2 Xi (fun k => k = v5.heap.size ∨ k = v5.heap.size + 1) := ⟨_, rfl⟩
            rw [← hX4] at hz
            have HZ := Lib.hid hz
            have HH1 := Lib.hid h1
            have HKD := Lib.hid hK
            have HX4 : Hid ((∀ k, Xi k → X4 k) ∧ X4 v5.heap.size) := Lib.hid (by
              rw [hX4]
              exact ⟨fun k q => .inl q, .inr (.inl rfl)⟩)
            have x15 : U.cell? ⟨b15, 0, none⟩ = some (.slice A15 nQ c15) := by rw [HNQ.out]; exact blk_cell ((h1 b15 HXV.out.2.2.1 HNE.out.2.2.1).trans HP5.out.x15) 0
            clear hX4 hz h1 h2 hd hK
            go_wp2_with fail
            go_loopw [125] (fun v wr2 => ∃ i : Nat, i ≤ nQ ∧ v = .int .i64 (i : Int) ∧ ST w p (stK (Q.drop i)) X4 wr2 ∧ ∀ k, X4 k → wr2.heap[k]? = U.heap[k]?) (fun v _ => nQ - (intOf v).toNat)
            case atStart => exact ⟨0, Nat.zero_le _, rfl, HZ.out, fun _ _ => rfl⟩
            case round =>
              obtain ⟨i, hin, rfl, hst, hsm⟩ := hrel
              have HS := Lib.hid hst
              have HSM := Lib.hid hsm
              clear hst hsm x15
              by_cases hli : i < nQ
              · have hli' : (i : Int) < (nQ : Int) := by omega
                have i0 : (0 : Int) ≤ (i : Int) := by omega
                have zi : IntKind.i64.wrap ((i : Int) + 1) = (i : Int) + 1 := by rw [IntKind.wrap_i64]; omega
                obtain ⟨c, hci⟩ : ∃ c, Q[i]? = some c := ⟨_, List.getElem?_eq_getElem (by rw [← HNQ.out]; exact hli)⟩
                have hdr : Q.drop i = c :: Q.drop (i + 1) := by
                  obtain ⟨e1, e2⟩ := List.getElem?_eq_some_iff.1 hci
                  rw [List.drop_eq_getElem_cons e1, e2]
                obtain ⟨gq, hgq, _, _, hcl, _⟩ := HP5.out.own.lies (by rw [← HNQ.out]; omega)
                have xe : wr.cell? ⟨gq, i, none⟩ = some (.int .i64 (c : Int)) := by
                  rw [kept_cell_block (p := ⟨gq, i, none⟩) ((HSM.out gq (HX4.out.1 gq (HXV.out.2.2.2.2 gq hgq))).trans (HH1.out gq (HXV.out.2.2.2.2 gq hgq) (HNE.out.2.2.2 gq hgq))), hcl i (by rw [← HNQ.out]; omega), ints_at hci]
                have hcq := HP5.out.own.cap
                have hcq9 := HP5.out.own.cap_le
                unfold maxLen at hcq9
                rw [← HNQ.out] at hcq
                subst hgq
                have hcc : ((c : Int) != (c : Int)) = false := by simp
                have hfit : (stK (Q.drop i)).Fit := stK_fit ((HFQN.out).sublist (List.drop_sublist _ _)) fun d hd => HFQL.out d (List.mem_of_mem_drop hd)
                have hpo := HS.out.pop hfit 1
                obtain ⟨e1, e2⟩ := stK_pop c (Q.drop (i + 1))
                rw [← hdr] at e1 e2
                rw [e1, e2] at hpo
                have HPO := Lib.hid hpo
                clear hcl hdr hci hfit hpo e1 e2
                go_wp2_with (first
                  | (go_at_call 11
                     refine HPO.out.mono ?_
                     rintro e u1 ⟨rfl, ht, hx⟩
                     have HS1 := Lib.hid ht
                     have HX1 := Lib.hid hx
                     clear ht hx))
                go_roundw
                case rel => exact ⟨i + 1, by omega, by go_num, HS1.out, fun k q => (HX1.out k q).trans (HSM.out k q)⟩
                case measure => simp [intOf]; omega
              · obtain rfl : i = nQ := by omega
                have hli' : ¬ (i : Int) < (i : Int) := by omega
                have hdn : Q.drop i = [] := by rw [HNQ.out, List.drop_length]
                have hst := HS.out
                rw [hdn] at hst
                have hf0 : (stK []).Fit := stK_fit List.nodup_nil fun c h => (nomatch h)
                have hpo := hst.pop hf0 1
                rw [stK_pop0.1, stK_pop0.2] at hpo
                have HPO := Lib.hid hpo
                have HF0 := Lib.hid hf0
                have HE1 : Hid (((stK []).of_ 1).length = 0) := Lib.hid (by rw [stK_of1]; rfl)
                have HE0 : Hid (((stK []).of_ 0).length = 0) := Lib.hid (by rw [stK_of0]; rfl)
                have HPD : Hid (wr.heap[v5.heap.size]? = some (.deferred (some []))) := Lib.hid ((HSM.out _ HX4.out.2).trans HKD.out)
                have HP6 : Hid (wr.heap[b5 + 1]? = some (.cells #[.bool false] 4 (0, 0))) := Lib.hid ((HSM.out _ (HX4.out.1 _ HXV.out.2.1)).trans ((HH1.out _ HXV.out.2.1 HNE.out.2.1).trans HP5.out.x6))
                clear hli hdn hst hf0 hpo
                go_wp2_with (first
                  | (go_at_call 11
                     refine HPO.out.mono ?_
                     rintro e u1 ⟨rfl, ht, hx⟩
                     have HS1 := Lib.hid ht
                     have HD1 : Hid (u1.heap[v5.heap.size]? = some (.deferred (some []))) := Lib.hid ((hx _ HX4.out.2).trans HPD.out)
                     have HR1 : Hid (u1.heap[b5 + 1]? = some (.cells #[.bool false] 4 (0, 0))) := Lib.hid ((hx _ (HX4.out.1 _ HXV.out.2.1)).trans HP6.out)
                     have HL1 := Lib.hid (ht.len HF0.out 1)
                     rw [HE1.out] at HL1
                     clear ht hx HPO)
                  | (go_at_call 20
                     refine HL1.out.mono ?_
                     rintro e u2 ⟨rfl, hb⟩
                     have HB2 := Lib.hid hb
                     have HL2 := Lib.hid ((HS1.out.step hb).len HF0.out 0)
                     rw [HE0.out] at HL2
                     clear hb HL1)
                  | (go_at_call 20
                     refine HL2.out.mono ?_
                     rintro e u3 ⟨rfl, hb⟩
                     have HB3 := Lib.hid (HB2.out.trans (hb.mono HB2.out.size))
                     clear hb HL2)
                  | (go_at_call 6
                     refine (known_any u3).mono ?_
                     rintro e u4 ⟨rfl, hb⟩
                     have HB4 := Lib.hid (HB3.out.trans (hb.mono HB3.out.size))
                     have HD4 : Hid (u4.heap[v5.heap.size]? = some (.deferred (some []))) := Lib.hid ((HB4.out.block _ (Array.getElem?_eq_some_iff.1 HD1.out).1).trans HD1.out)
                     have HR4 : Hid (u4.heap[b5 + 1]? = some (.cells #[.bool false] 4 (0, 0))) := Lib.hid ((HB4.out.block _ (lt_heap HR1.out)).trans HR1.out)
                     have x6 : u4.cell? ⟨b5 + 1, 0, none⟩ = some (.bool false) := blk_cell HR4.out 0
                     have y6 : u4.frozen? ⟨b5 + 1, 0, none⟩ = false := blk_free HR4.out 0
                     clear hb))
                have hne : v5.heap.size ≠ b5 + 1 := by
                  have := HLT.out (b5 + 1) HXV.out.2.1
                  have := lt_heap HBP.out
                  omega
                have hK2 : (u4.setCell ⟨b5 + 1, 0, none⟩ (.bool true)).heap[v5.heap.size]? = some (.deferred (some [])) := (Below.heap_setCell u4 ⟨b5 + 1, 0, none⟩ _ v5.heap.size hne).trans HD4.out
                refine ⟨by simp, .inl ⟨_, _, rfl, run_takeDeferred hK2, ?_⟩⟩
                have hr : ((u4.setCell ⟨b5 + 1, 0, none⟩ (.bool true)).putObj v5.heap.size (.deferred none)).heap[b5 + 1]? = some (.cells #[.bool true] 4 (0, 0)) := (World.putObj_heap_other (Ne.symm hne)).trans (blk_set HR4.out 0 _)
                have hbw : Below w.heap.size w (u4.setCell ⟨b5 + 1, 0, none⟩ (.bool true)) := (HS1.out.below.trans (HB4.out.mono HS1.out.below.size)).setCell (p := ⟨b5 + 1, 0, none⟩) HP5.out.lo.2.1 _
                exact ⟨_, results_flag rfl _ _ (b5 + 1) true rfl (blk_cell hr 0), rfl, hbw.trans (((kept_put (W := u4.setCell ⟨b5 + 1, 0, none⟩ (.bool true)) v5.heap.size (.deferred none)).below hbw.size fun k e => by rw [e]; exact HS5.out.below.size))⟩
          case stop =>
            rintro c' Xi pre U ⟨rfl, hXi, h1, y, h2⟩ ⟨hpre, hz⟩ hd hK
            subst hXi
            gi_wp2
            obtain ⟨X4, hX4⟩ : ∃ X4, X4 = Or2 Xi (fun k => k = v5.heap.size ∨ k = v5.heap.size + 1) := ⟨_, rfl⟩
            rw [← hX4] at hz
            have HZ := Lib.hid hz
            have HH1 := Lib.hid h1
            have HKD := Lib.hid hK
            have HX4 : Hid ((∀ k, Xi k → X4 k) ∧ X4 v5.heap.size) := Lib.hid (by
              rw [hX4]
              exact ⟨fun k q => .inl q, .inr (.inl rfl)⟩)
            have x15 : U.cell? ⟨b15, 0, none⟩ = some (.slice A15 nQ c15) := by rw [HNQ.out]; exact blk_cell ((h1 b15 HXV.out.2.2.1 HNE.out.2.2.1).trans HP5.out.x15) 0
            clear hX4 hz h1 h2 hd hK
            go_wp2_with fail
            go_loopw [125] (fun v wr2 => ∃ i : Nat, i ≤ nQ ∧ v = .int .i64 (i : Int) ∧ ST w p (stK (Q.drop i)) X4 wr2 ∧ ∀ k, X4 k → wr2.heap[k]? = U.heap[k]?) (fun v _ => nQ - (intOf v).toNat)
            case atStart => exact ⟨0, Nat.zero_le _, rfl, HZ.out, fun _ _ => rfl⟩
            case round =>
              obtain ⟨i, hin, rfl, hst, hsm⟩ := hrel
              have HS := Lib.hid hst
              have HSM := Lib.hid hsm
              clear hst hsm x15
              by_cases hli : i < nQ
              · have hli' : (i : Int) < (nQ : Int) := by omega
                have i0 : (0 : Int) ≤ (i : Int) := by omega
                have zi : IntKind.i64.wrap ((i : Int) + 1) = (i : Int) + 1 := by rw [IntKind.wrap_i64]; omega
                obtain ⟨c, hci⟩ : ∃ c, Q[i]? = some c := ⟨_, List.getElem?_eq_getElem (by rw [← HNQ.out]; exact hli)⟩
                have hdr : Q.drop i = c :: Q.drop (i + 1) := by
                  obtain ⟨e1, e2⟩ := List.getElem?_eq_some_iff.1 hci
                  rw [List.drop_eq_getElem_cons e1, e2]
                obtain ⟨gq, hgq, _, _, hcl, _⟩ := HP5.out.own.lies (by rw [← HNQ.out]; omega)
                have xe : wr.cell? ⟨gq, i, none⟩ = some (.int .i64 (c : Int)) := by
                  rw [kept_cell_block (p := ⟨gq, i, none⟩) ((HSM.out gq (HX4.out.1 gq (HXV.out.2.2.2.2 gq hgq))).trans (HH1.out gq (HXV.out.2.2.2.2 gq hgq) (HNE.out.2.2.2 gq hgq))), hcl i (by rw [← HNQ.out]; omega), ints_at hci]
                have hcq := HP5.out.own.cap
                have hcq9 := HP5.out.own.cap_le
                unfold maxLen at hcq9
                rw [← HNQ.out] at hcq
                subst hgq
                have hcc : ((c : Int) != (c : Int)) = false := by simp
                have hfit : (stK (Q.drop i)).Fit := stK_fit ((HFQN.out).sublist (List.drop_sublist _ _)) fun d hd => HFQL.out d (List.mem_of_mem_drop hd)
                have hpo := HS.out.pop hfit 1
                obtain ⟨e1, e2⟩ := stK_pop c (Q.drop (i + 1))
                rw [← hdr] at e1 e2
                rw [e1, e2] at hpo
                have HPO := Lib.hid hpo
                clear hcl hdr hci hfit hpo e1 e2
                go_wp2_with (first
                  | (go_at_call 11
                     refine HPO.out.mono ?_
                     rintro e u1 ⟨rfl, ht, hx⟩
                     have HS1 := Lib.hid ht
                     have HX1 := Lib.hid hx
                     clear ht hx))
                go_roundw
                case rel => exact ⟨i + 1, by omega, by go_num, HS1.out, fun k q => (HX1.out k q).trans (HSM.out k q)⟩
                case measure => simp [intOf]; omega
              · obtain rfl : i = nQ := by omega
                have hli' : ¬ (i : Int) < (i : Int) := by omega
                have hdn : Q.drop i = [] := by rw [HNQ.out, List.drop_length]
                have hst := HS.out
                rw [hdn] at hst
                have hf0 : (stK []).Fit := stK_fit List.nodup_nil fun c h => (nomatch h)
                have hpo := hst.pop hf0 1
                rw [stK_pop0.1, stK_pop0.2] at hpo
                have HPO := Lib.hid hpo
                have HF0 := Lib.hid hf0
                have HE1 : Hid (((stK []).of_ 1).length = 0) := Lib.hid (by rw [stK_of1]; rfl)
                have HE0 : Hid (((stK []).of_ 0).length = 0) := Lib.hid (by rw [stK_of0]; rfl)
                have HPD : Hid (wr.heap[v5.heap.size]? = some (.deferred (some []))) := Lib.hid ((HSM.out _ HX4.out.2).trans HKD.out)
                have HP6 : Hid (wr.heap[b5 + 1]? = some (.cells #[.bool false] 4 (0, 0))) := Lib.hid ((HSM.out _ (HX4.out.1 _ HXV.out.2.1)).trans ((HH1.out _ HXV.out.2.1 HNE.out.2.1).trans HP5.out.x6))
                clear hli hdn hst hf0 hpo
                go_wp2_with (first
                  | (go_at_call 11
                     refine HPO.out.mono ?_
                     rintro e u1 ⟨rfl, ht, hx⟩
                     have HS1 := Lib.hid ht
                     have HD1 : Hid (u1.heap[v5.heap.size]? = some (.deferred (some []))) := Lib.hid ((hx _ HX4.out.2).trans HPD.out)
                     have HR1 : Hid (u1.heap[b5 + 1]? = some (.cells #[.bool false] 4 (0, 0))) := Lib.hid ((hx _ (HX4.out.1 _ HXV.out.2.1)).trans HP6.out)
                     have HL1 := Lib.hid (ht.len HF0.out 1)
                     rw [HE1.out] at HL1
                     clear ht hx HPO)
                  | (go_at_call 20
                     refine HL1.out.mono ?_
                     rintro e u2 ⟨rfl, hb⟩
                     have HB2 := Lib.hid hb
                     have HL2 := Lib.hid ((HS1.out.step hb).len HF0.out 0)
                     rw [HE0.out] at HL2
                     clear hb HL1)
                  | (go_at_call 20
                     refine HL2.out.mono ?_
                     rintro e u3 ⟨rfl, hb⟩
                     have HB3 := Lib.hid (HB2.out.trans (hb.mono HB2.out.size))
                     clear hb HL2)
                  | (go_at_call 6
                     refine (known_any u3).mono ?_
                     rintro e u4 ⟨rfl, hb⟩
                     have HB4 := Lib.hid (HB3.out.trans (hb.mono HB3.out.size))
                     have HD4 : Hid (u4.heap[v5.heap.size]? = some (.deferred (some []))) := Lib.hid ((HB4.out.block _ (Array.getElem?_eq_some_iff.1 HD1.out).1).trans HD1.out)
                     have HR4 : Hid (u4.heap[b5 + 1]? = some (.cells #[.bool false] 4 (0, 0))) := Lib.hid ((HB4.out.block _ (lt_heap HR1.out)).trans HR1.out)
                     have x6 : u4.cell? ⟨b5 + 1, 0, none⟩ = some (.bool false) := blk_cell HR4.out 0
                     have y6 : u4.frozen? ⟨b5 + 1, 0, none⟩ = false := blk_free HR4.out 0
                     clear hb))
                have hne : v5.heap.size ≠ b5 + 1 := by
                  have := HLT.out (b5 + 1) HXV.out.2.1
                  have := lt_heap HBP.out
                  omega
                have hK2 : (u4.setCell ⟨b5 + 1, 0, none⟩ (.bool true)).heap[v5.heap.size]? = some (.deferred (some [])) := (Below.heap_setCell u4 ⟨b5 + 1, 0, none⟩ _ v5.heap.size hne).trans HD4.out
                refine ⟨by simp, .inl ⟨_, _, rfl, run_takeDeferred hK2, ?_⟩⟩
                have hr : ((u4.setCell ⟨b5 + 1, 0, none⟩ (.bool true)).putObj v5.heap.size (.deferred none)).heap[b5 + 1]? = some (.cells #[.bool true] 4 (0, 0)) := (World.putObj_heap_other (Ne.symm hne)).trans (blk_set HR4.out 0 _)
                have hbw : Below w.heap.size w (u4.setCell ⟨b5 + 1, 0, none⟩ (.bool true)) := (HS1.out.below.trans (HB4.out.mono HS1.out.below.size)).setCell (p := ⟨b5 + 1, 0, none⟩) HP5.out.lo.2.1 _
                exact ⟨_, results_flag rfl _ _ (b5 + 1) true rfl (blk_cell hr 0), rfl, hbw.trans (((kept_put (W := u4.setCell ⟨b5 + 1, 0, none⟩ (.bool true)) v5.heap.size (.deferred none)).below hbw.size fun k e => by rw [e]; exact HS5.out.below.size))⟩

end Go.Proofs.Ythlnhkkjpjbmeaa
