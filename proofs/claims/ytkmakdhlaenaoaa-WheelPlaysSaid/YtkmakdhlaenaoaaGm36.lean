import Derived.Test.YtkmakdhlaenaoaaGm35
import Derived.Test.YtkmakdhlaenaoaaGm30
/- Stage 11: the document's calls by what the wheel stands for. -/
namespace Go.Proofs.Ytkmakdhlaenaoaa
set_option maxRecDepth 100000
open Go.RowKit Go.Shelf
namespace Wh
theorem len_le {s : Wh} (h : s.Ok) : s.l.length ≤ s.a.has.length := by
  rw [h.cnt]
  exact List.countP_le_length
theorem last_of {s : Wh} (h : s.Ok) {i : Int} {k : Nat} {t : Tm} (hf : s.find i k = some t) : lastIs s.l i k = t := by
  have ht := List.mem_of_find?_eq_some hf
  have hp := List.find?_some hf
  have hm : t ∈ s.l.filter fun t => t.is_ i k := List.mem_filter.2 ⟨ht, hp⟩
  unfold lastIs
  cases hg : (s.l.filter fun t => t.is_ i k).getLast? with
  | none =>
    rw [List.getLast?_eq_none_iff] at hg
    rw [hg] at hm
    cases hm
  | some u =>
    have hu := List.mem_filter.1 (List.mem_of_getLast? hg)
    have h1 := Tm.is_iff.1 hp
    have h2 := Tm.is_iff.1 hu.2
    show u = t
    exact one_of h.nd hu.1 ht (by omega)
theorem due_l (s : Wh) (i : Int) (k : Nat) : dueL s.l i k = s.due i k := by
  unfold dueL due find
  cases s.l.find? (fun t => t.is_ i k) <;> rfl
theorem dropAll_filter (L F : List Tm) : dropAll L F = L.filter fun t => F.all fun u => !t.is_ (u.i : Int) u.k := by
  induction F generalizing L with
  | nil =>
    exact (List.filter_eq_self.2 fun _ _ => rfl).symm
  | cons u F ih =>
    show dropAll (Wh.drop L (u.i : Int) u.k) F = _
    rw [ih]
    unfold Wh.drop
    rw [List.filter_filter]
    congr 1
    funext t
    rw [List.all_cons, Bool.and_comm]
theorem drop_fires {s : Wh} (h : s.Ok) : dropAll s.l s.fires = s.stay := by
  rw [dropAll_filter]
  unfold stay
  refine List.filter_congr fun t ht => ?_
  by_cases e : t.at_ = s.now + 1
  · have h1 : (s.fires.all fun u => !t.is_ (u.i : Int) u.k) = false := by
      rw [List.all_eq_false]
      exact ⟨t, mem_fires.2 ⟨ht, e⟩, by rw [Tm.is_iff.2 ⟨rfl, rfl⟩]; decide⟩
    rw [h1]
    simp [e]
  · have h1 : (s.fires.all fun u => !t.is_ (u.i : Int) u.k) = true := by
      rw [List.all_eq_true]
      intro u hu
      have h2 := mem_fires.1 hu
      cases hc : t.is_ (u.i : Int) u.k with
      | false => rfl
      | true =>
        have h3 := Tm.is_iff.1 hc
        have h4 := one_of h.nd ht h2.1 (by omega)
        exact absurd (by rw [h4]; exact h2.2) e
    rw [h1]
    simp [e]
theorem fire_at {s : Wh} (h : s.Ok) (hn : s.a.has.length ≤ 65536) (j : Nat) (t : Tm) (ht : s.fires[j]? = some t) : (goneL s.a ((s.fires.take j).map Tm.i)).Ok ∧ (goneL s.a ((s.fires.take j).map Tm.i)).live (t.i : Int) t.k = true ∧ (goneL s.a ((s.fires.take j).map Tm.i)).has.length ≤ 65536 := by
  obtain ⟨f1, f2, _⟩ := fires_facts h
  have hsub : ((s.fires.take j).map Tm.i).Sublist (s.fires.map Tm.i) := (List.take_sublist j _).map _
  obtain ⟨g1, g2, _, _, g5⟩ := goneL_facts _ s.a h.a (f1.sublist hsub) (fun i hi => f2 i (hsub.subset hi))
  refine ⟨g1, ?_, by rw [g5]; exact hn⟩
  have hm := (mem_fires.1 (List.mem_of_getElem? ht)).1
  obtain ⟨e1, e2⟩ := h.ent t hm
  refine Ar.live_iff.2 ⟨by omega, e2, ?_⟩
  have hni : ¬ t.i ∈ (s.fires.take j).map Tm.i := fun hmem => by
    have h9 := f1.sublist ((List.take_sublist (j + 1) s.fires).map Tm.i)
    rw [tk_snoc ht, List.map_append, List.nodup_append] at h9
    exact h9.2.2 t.i hmem t.i (by simp) rfl
  show (goneL s.a ((s.fires.take j).map Tm.i)).at_ t.i = t.k
  rw [g2, if_neg hni]
  exact e1
end Wh
section
variable {w w' : World} {q : Nat} {s : Wh} {G : Nat → Prop} {m : Nat}
theorem DW.keep {R : Nat → Prop} (h : DW w q s G) (hk : Kept R w w') (hd : ∀ k, G k → ¬ R k) : DW w' q s G := by
  obtain ⟨r, B, d, hx⟩ := h
  exact ⟨r, B, d, hx.keep hk hd⟩
theorem DW.old (h : DW w q s G) : ∀ k, G k → k < w.heap.size := by
  obtain ⟨r, B, d, hx⟩ := h
  exact hx.old
theorem DW.ptr (h : DW w q s G) : G q := by
  obtain ⟨r, B, d, hx⟩ := h
  exact hx.mq
theorem Wh.Fit.len (hs : s.Fit m) : s.l.length ≤ 65536 := Nat.le_trans (Wh.len_le hs.ok) hs.n
theorem dw_arm (h : DW w q s G) (hs : s.Fit m) (at_ what : Nat) (ha : at_ < 18446744073709551616) : Calls Try.prog 45 #[.pointer (some ⟨q, 0, none⟩), .int .u64 (at_ : Int), .int .u64 (what : Int)] w fun e w' => e = .returned (.tuple #[.agg (s.armH at_), .int .i64 (s.armE at_)]) ∧ ∃ G', DW w' q (s.arm at_ what) G' ∧ Ext G G' w w' := by
  obtain ⟨r, B, d, hx⟩ := h
  have hser := hs.ser
  have hm := hs.m
  cases ho : ovr s.now at_ with
  | true =>
    have ho' : s.over at_ = true := ho
    have e1 : s.armE at_ = 15 := if_pos ho'
    have e2 : s.armH at_ = #[.int .i64 0, .int .u64 0] := if_pos ho'
    have e3 : s.arm at_ what = s := if_pos ho'
    rw [e1, e2, e3]
    refine (rarm_over hx at_ what ha ho).mono ?_
    rintro e w' ⟨rfl, B', d', G', hx', he⟩
    exact ⟨rfl, G', ⟨r, B', d', hx'⟩, he⟩
  | false =>
    have ho' : ¬ s.over at_ = true := by rw [over_eq, ho]; decide
    cases hw : s.a.which with
    | none =>
      have e1 : s.armE at_ = 9 := by unfold Wh.armE; rw [if_neg ho', hw]
      have e2 : s.armH at_ = #[.int .i64 0, .int .u64 0] := by unfold Wh.armH; rw [if_neg ho', hw]
      have e3 : s.arm at_ what = s := by unfold Wh.arm; rw [if_neg ho', hw]
      rw [e1, e2, e3]
      refine (rarm_none hx hs.ok.a hs.n (by omega) at_ what ha ho hw).mono ?_
      rintro e w' ⟨rfl, B', d', G', hx', he⟩
      exact ⟨rfl, G', ⟨r, B', d', hx'⟩, he⟩
    | some i =>
      have e1 : s.armE at_ = 0 := by unfold Wh.armE; rw [if_neg ho', hw]
      have e2 : s.armH at_ = #[.int .i64 (i : Int), .int .u64 ((s.a.serial + 1 : Nat) : Int)] := by unfold Wh.armH; rw [if_neg ho', hw]; rfl
      have e3 : s.arm at_ what = ⟨s.a.taken i, s.l ++ [⟨i, s.a.serial + 1, s.nxt at_, what⟩], s.now, s.tn + 1⟩ := by unfold Wh.arm; rw [if_neg ho', hw]
      rw [e1, e2, e3]
      refine (rarm_ok hx hs.ok.a hs.n (by omega) hs.len (ovr_now ho hs.ok.now) at_ what ha ho i _ hw rfl).mono ?_
      rintro e w' ⟨rfl, B', d', G', hx', he⟩
      exact ⟨rfl, G', ⟨r, B', d', hx'⟩, he⟩
theorem dw_again (h : DW w q s G) (hs : s.Fit m) (hi : Int) (k : Nat) (at_ : Nat) (ha : at_ < 18446744073709551616) : Calls Try.prog 26 #[.pointer (some ⟨q, 0, none⟩), .agg #[.int .i64 hi, .int .u64 (k : Int)], .int .u64 (at_ : Int)] w fun e w' => e = .returned (.int .i64 (s.againE hi k at_)) ∧ ∃ G', DW w' q (s.again hi k at_) G' ∧ Ext G G' w w' := by
  obtain ⟨r, B, d, hx⟩ := h
  cases hl : s.a.live hi k with
  | false =>
    have e1 : s.againE hi k at_ = 14 := by unfold Wh.againE; rw [hl]; rfl
    have e2 : s.again hi k at_ = s := by unfold Wh.again; rw [(Wh.not_live hs.ok hl).1]
    rw [e1, e2]
    refine (ragain_no hx hs.n hi k hl at_).mono ?_
    rintro e w' ⟨rfl, B', d', G', hx', he⟩
    exact ⟨rfl, G', ⟨r, B', d', hx'⟩, he⟩
  | true =>
    obtain ⟨t, ht, hi1, hk1, hf⟩ := Wh.live_ent hs.ok hl
    cases ho : ovr s.now at_ with
    | true =>
      have ho' : s.over at_ = true := ho
      have e1 : s.againE hi k at_ = 15 := by unfold Wh.againE; rw [hl, if_pos rfl, if_pos ho']
      have e2 : s.again hi k at_ = s := by unfold Wh.again; rw [hf]; exact if_pos ho'
      rw [e1, e2]
      refine (ragain_over hx hs.n hi k hl at_ ha ho).mono ?_
      rintro e w' ⟨rfl, B', d', G', hx', he⟩
      exact ⟨rfl, G', ⟨r, B', d', hx'⟩, he⟩
    | false =>
      have ho' : ¬ s.over at_ = true := by rw [over_eq, ho]; decide
      have e1 : s.againE hi k at_ = 0 := by unfold Wh.againE; rw [hl, if_pos rfl, if_neg ho']
      have e2 : s.again hi k at_ = ⟨s.a, Wh.drop s.l hi k ++ [⟨t.i, t.k, s.nxt at_, t.what⟩], s.now, s.tn + 1⟩ := by unfold Wh.again; rw [hf]; exact if_neg ho'
      have e3 := Wh.last_of hs.ok hf
      rw [e1, e2]
      subst hi1 hk1
      refine (ragain_ok hx hs.n hs.len (ovr_now ho hs.ok.now) t.i t.k hl at_ ha ho).mono ?_
      rintro e w' ⟨rfl, B', d', G', hx', he⟩
      rw [e3] at hx'
      exact ⟨rfl, G', ⟨r, B', d', hx'⟩, he⟩
theorem dw_cancel (h : DW w q s G) (hs : s.Fit m) (hi : Int) (k : Nat) : Calls Try.prog 27 #[.pointer (some ⟨q, 0, none⟩), .agg #[.int .i64 hi, .int .u64 (k : Int)]] w fun e w' => e = .returned (.int .i64 (s.cancelE hi k)) ∧ ∃ G', DW w' q (s.cancel hi k) G' ∧ Ext G G' w w' := by
  obtain ⟨r, B, d, hx⟩ := h
  cases hl : s.a.live hi k with
  | false =>
    have e1 : s.cancelE hi k = 14 := by unfold Wh.cancelE; rw [hl]; rfl
    have e2 : s.cancel hi k = s := by unfold Wh.cancel; rw [hl]; rfl
    rw [e1, e2]
    refine (rcancel_no hx hs.ok.a hs.n hi k hl).mono ?_
    rintro e w' ⟨rfl, B', d', G', hx', he⟩
    exact ⟨rfl, G', ⟨r, B', d', hx'⟩, he⟩
  | true =>
    have e1 : s.cancelE hi k = 0 := by unfold Wh.cancelE; rw [hl]; rfl
    have e2 : s.cancel hi k = ⟨s.a.gone hi.toNat, Wh.drop s.l hi k, s.now, s.tn⟩ := by unfold Wh.cancel; rw [hl]; rfl
    rw [e1, e2]
    refine (rcancel_ok hx hs.ok.a hs.n hs.len hi k hl).mono ?_
    rintro e w' ⟨rfl, B', d', G', hx', he⟩
    exact ⟨rfl, G', ⟨r, B', d', hx'⟩, he⟩
theorem dw_due (h : DW w q s G) (hs : s.Fit m) (hi : Int) (k : Nat) : Calls Try.prog 14 #[.pointer (some ⟨q, 0, none⟩), .agg #[.int .i64 hi, .int .u64 (k : Int)]] w (ret (.tuple (s.due hi k)) w) := by
  obtain ⟨r, B, d, hx⟩ := h
  rw [← Wh.due_l]
  exact rdue hx hs.len hi k
theorem dw_tick (h : DW w q s G) (hs : s.Fit m) : Calls Try.prog 51 #[.pointer (some ⟨q, 0, none⟩)] w fun e w' => ∃ E dE, e = .returned (.tuple #[.slice E s.told.length dE, .int .i64 s.tickE]) ∧ OwnC w' w.heap.size 58 3 E s.told.length dE (rwc 3 fev s.told) ∧ ∃ G', DW w' q s.tick G' ∧ Ext G G' w w' := by
  obtain ⟨r, B, d, hx⟩ := h
  by_cases hl : s.now = 18446744073709551615
  · have e1 : s.told = [] := if_pos hl
    have e2 : s.tickE = 15 := if_pos hl
    have e3 : s.tick = s := if_pos hl
    rw [e1, e2, e3]
    refine (rtk_last hx hl).mono ?_
    rintro e w' ⟨rfl, hb⟩
    exact ⟨none, 0, rfl, OwnC.nil_ _ _ _ _ _, G, ⟨r, B, d, hx.step hb⟩, (Ext.refl G w).step hb⟩
  · have e1 : s.told = s.fires := if_neg hl
    have e2 : s.tickE = 0 := if_neg hl
    have e3 : s.tick = s.ticked := if_neg hl
    rw [e1, e2, e3]
    have hn := hs.ok.now
    refine (rtk_ok hx (by omega) hs.len (s.now + 1) rfl (Wh.fire_at hs.ok hs.n)).mono ?_
    rintro e w' ⟨E, dE, rfl, ho, B', d', G', hx', he⟩
    have h9 : dropAll s.l (firesL s.l (s.now + 1)) = s.stay := Wh.drop_fires hs.ok
    rw [h9] at hx'
    exact ⟨E, dE, rfl, ho, G', ⟨r, B', d', hx'⟩, he⟩
theorem dw_skip (h : DW w q s G) (t9 : Nat) (ht : t9 < 18446744073709551616) : Calls Try.prog 29 #[.pointer (some ⟨q, 0, none⟩), .int .u64 (t9 : Int)] w fun e w' => e = .returned (.int .i64 (s.skipE t9)) ∧ ∃ G', DW w' q (s.skip t9) G' ∧ Ext G G' w w' := by
  obtain ⟨r, B, d, hx⟩ := h
  refine (rskip hx t9 ht).mono ?_
  rintro e w' ⟨rfl, hx', he⟩
  refine ⟨rfl, G, ⟨r, B, d, ?_⟩, he⟩
  unfold Wh.skip Wh.skipE
  by_cases h1 : s.l.length = 0
  · rw [if_pos h1] at hx' ⊢
    by_cases h2 : t9 < s.now
    · rw [if_pos h2] at hx' ⊢
      exact hx'
    · rw [if_neg h2] at hx' ⊢
      exact hx'
  · rw [if_neg h1] at hx' ⊢
    exact hx'
theorem dw_copy (h : DW w q s G) : Calls Try.prog 30 #[.pointer (some ⟨q, 0, none⟩)] w fun e w' => ∃ q2 G2, e = .returned (.pointer (some ⟨q2, 0, none⟩)) ∧ DW w' q2 s G2 ∧ (∀ k, G2 k → G k ∨ (w.heap.size ≤ k ∧ k < w'.heap.size)) ∧ Below w.heap.size w w' := by
  obtain ⟨r, B, d, hx⟩ := h
  refine (rwcopy hx).mono ?_
  rintro e w' ⟨q2, G2, rfl, ⟨r2, B2, d2, hx'⟩, hg, hb⟩
  exact ⟨q2, G2, rfl, ⟨r2, B2, d2, hx'⟩, hg, hb⟩
end
end Go.Proofs.Ytkmakdhlaenaoaa
/- Stage 11: a wheel, the document's, and all handles that were told: what stands between two calls. -/
namespace Go.Proofs.Ytkmakdhlaenaoaa
set_option maxRecDepth 100000
open Go.RowKit Go.Shelf
/-- A handle's cells. -/
def hnv (x : Nat × Nat) : Array Value := #[.int .i64 (x.1 : Int), .int .u64 (x.2 : Int)]
theorem hnv_one (x : Nat × Nat) (j : Nat) (hj : j < 2) : ((hnv x).getD j undef).oneCell' = true := by
  rcases (show j = 0 ∨ j = 1 by omega) with rfl | rfl <;> rfl
/-- The play at a block: the wheel at p stands for s, the document's at q for t; the blocks of X are beside it. -/
structure PL (w : World) (X : Nat → Prop) (W : World) (b p q : Nat) (E : Option Addr) (hc : Nat) (hs : List (Nat × Nat)) (tk : Nat) (s t : Wh) : Prop where
  blk : W.heap[b]? = some (.cells #[.pointer (some ⟨p, 0, none⟩), .pointer (some ⟨q, 0, none⟩), .slice E hs.length hc, .int .u64 (tk : Int)] 35 (0, 0))
  st : ∃ F G, PW W p s F ∧ DW W q t G ∧ (∀ k, F k → w.heap.size ≤ k ∧ ¬ X k ∧ k ≠ b ∧ ¬ G k ∧ Value.ownBlock (.slice E hs.length hc) ≠ some k) ∧ (∀ k, G k → w.heap.size ≤ k ∧ ¬ X k ∧ k ≠ b ∧ Value.ownBlock (.slice E hs.length hc) ≠ some k)
  row : OwnC W w.heap.size 46 2 E hs.length hc (rwc 2 hnv hs)
  rx : ∀ k, Value.ownBlock (.slice E hs.length hc) = some k → ¬ X k ∧ k ≠ b
  lo : w.heap.size ≤ b
  xb : ¬ X b
  xo : ∀ k, X k → k < W.heap.size
  below : Below w.heap.size w W
  z0 : hs.length = 0 → hc = 0
section
variable {w W w' : World} {X : Nat → Prop} {b p q : Nat} {E : Option Addr} {hc tk : Nat} {hs : List (Nat × Nat)} {s t : Wh}
theorem PL.own_lt (h : PL w X W b p q E hc hs tk s t) {k : Nat} (e : Value.ownBlock (.slice E hs.length hc) = some k) : k < W.heap.size := by
  rcases h.row.2 with ⟨hv, _⟩ | ⟨g', cap, cur, hv, _, hg, _⟩
  · rw [hv] at e
    cases e
  · rw [hv] at e
    injection e with e
    subst e
    exact lt_heap hg
/-- What a call on either wheel leaves. -/
theorem PL.turn (h : PL w X W b p q E hc hs tk s t) {R : Nat → Prop} {s' t' : Wh} {F' G' : Nat → Prop} (hp : PW w' p s' F') (hq : DW w' q t' G') (hk : Kept R W w') (hb : ¬ R b) (ho : ∀ k, Value.ownBlock (.slice E hs.length hc) = some k → ¬ R k) (hX : ∀ k, X k → ¬ R k) (hR : ∀ k, R k → w.heap.size ≤ k)
    (h1 : ∀ k, F' k → w.heap.size ≤ k ∧ ¬ X k ∧ k ≠ b ∧ ¬ G' k ∧ Value.ownBlock (.slice E hs.length hc) ≠ some k) (h2 : ∀ k, G' k → w.heap.size ≤ k ∧ ¬ X k ∧ k ≠ b ∧ Value.ownBlock (.slice E hs.length hc) ≠ some k) :
    PL w X w' b p q E hc hs tk s' t' ∧ ∀ k, X k → w'.heap[k]? = W.heap[k]? :=
  ⟨⟨(hk.block b (lt_heap h.blk) hb).trans h.blk, ⟨F', G', hp, hq, h1, h2⟩, h.row.keepAny fun g e => hk.block g (h.own_lt (by rw [e]; rfl)) (ho g (by rw [e]; rfl)), h.rx, h.lo, h.xb, fun k hx => Nat.lt_of_lt_of_le (h.xo k hx) hk.size, h.below.trans (hk.below h.below.size hR), h.z0⟩,
   fun k hx => hk.block k (h.xo k hx) (hX k hx)⟩
theorem PL.left (h : PL w X W b p q E hc hs tk s t) : ∃ F, PW W p s F ∧ (∀ k, F k → ¬ X k ∧ k ≠ b) ∧ ∀ w' s' F', PW w' p s' F' → Ext F F' W w' → PL w X w' b p q E hc hs tk s' t ∧ ∀ k, X k → w'.heap[k]? = W.heap[k]? := by
  obtain ⟨F, G, hp, hq, h1, h2⟩ := h.st
  refine ⟨F, hp, fun k hk => ⟨(h1 k hk).2.1, (h1 k hk).2.2.1⟩, fun w' s' F' hp' he => ?_⟩
  have hlt := lt_heap h.blk
  have hw := h.below.size
  refine h.turn hp' (hq.keep he.kept fun k hg hf => (h1 k hf).2.2.2.1 hg) he.kept (fun hf => (h1 b hf).2.2.1 rfl) (fun k e hf => (h1 k hf).2.2.2.2 e) (fun k hx hf => (h1 k hf).2.1 hx) (fun k hf => (h1 k hf).1) (fun k hf => ?_) h2
  rcases he.sub k hf with q1 | ⟨q1, _⟩
  · exact h1 k q1
  · exact ⟨by omega, fun hx => by have := h.xo k hx; omega, by omega, fun hg => by have := hq.old k hg; omega, fun e => by have := h.own_lt e; omega⟩
theorem PL.right (h : PL w X W b p q E hc hs tk s t) : ∃ G, DW W q t G ∧ (∀ k, G k → ¬ X k ∧ k ≠ b) ∧ ∀ w' t' G', DW w' q t' G' → Ext G G' W w' → PL w X w' b p q E hc hs tk s t' ∧ ∀ k, X k → w'.heap[k]? = W.heap[k]? := by
  obtain ⟨F, G, hp, hq, h1, h2⟩ := h.st
  refine ⟨G, hq, fun k hk => ⟨(h2 k hk).2.1, (h2 k hk).2.2.1⟩, fun w' t' G' hq' he => ?_⟩
  have hlt := lt_heap h.blk
  have hw := h.below.size
  refine h.turn (hp.keep he.kept fun k hf hg => (h1 k hf).2.2.2.1 hg) hq' he.kept (fun hf => (h2 b hf).2.2.1 rfl) (fun k e hf => (h2 k hf).2.2.2 e) (fun k hx hf => (h2 k hf).2.1 hx) (fun k hf => (h2 k hf).1) (fun k hf => ?_) (fun k hf => ?_)
  · obtain ⟨a1, a2, a3, a4, a5⟩ := h1 k hf
    refine ⟨a1, a2, a3, fun hg => ?_, a5⟩
    rcases he.sub k hg with q1 | ⟨q1, _⟩
    · exact a4 q1
    · have := hp.old k hf
      omega
  · rcases he.sub k hf with q1 | ⟨q1, _⟩
    · exact h2 k q1
    · exact ⟨by omega, fun hx => by have := h.xo k hx; omega, by omega, fun e => by have := h.own_lt e; omega⟩
theorem PL.step (h : PL w X W b p q E hc hs tk s t) (hb : Below W.heap.size W w') : PL w X w' b p q E hc hs tk s t := by
  obtain ⟨F, G, hp, hq, h1, h2⟩ := h.st
  exact (h.turn (R := fun _ => False) (hp.keep (Kept.of_below hb fun _ => False) fun _ _ q => q) (hq.keep (Kept.of_below hb fun _ => False) fun _ _ q => q) (Kept.of_below hb _) (fun q => q) (fun _ _ q => q) (fun _ _ q => q) (fun _ q => q.elim) h1 h2).1
theorem PL.less (h : PL w X W b p q E hc hs tk s t) {Y : Nat → Prop} (hY : ∀ k, Y k → X k) : PL w Y W b p q E hc hs tk s t := by
  obtain ⟨F, G, hp, hq, h1, h2⟩ := h.st
  exact ⟨h.blk, ⟨F, G, hp, hq, fun k hf => ⟨(h1 k hf).1, fun y => (h1 k hf).2.1 (hY k y), (h1 k hf).2.2⟩, fun k hf => ⟨(h2 k hf).1, fun y => (h2 k hf).2.1 (hY k y), (h2 k hf).2.2⟩⟩, h.row, fun k e => ⟨fun y => (h.rx k e).1 (hY k y), (h.rx k e).2⟩, h.lo, fun y => h.xb (hY b y), fun k y => h.xo k (hY k y), h.below, h.z0⟩
/-- A new block beside it. -/
theorem PL.box (h : PL w X W b p q E hc hs tk s t) (o : Obj) : PL w (fun k => X k ∨ k = W.heap.size) (W.alloc o) b p q E hc hs tk s t := by
  have h0 := h.step (below_alloc W o)
  obtain ⟨F, G, hp, hq, h1, h2⟩ := h.st
  have hk : Kept (fun _ => False) W (W.alloc o) := Kept.of_below (below_alloc W o) _
  have hz : (W.alloc o).heap.size = W.heap.size + 1 := by simp
  have hlt := lt_heap h.blk
  exact ⟨h0.blk, ⟨F, G, hp.keep hk fun _ _ q => q, hq.keep hk fun _ _ q => q, fun k hf => ⟨(h1 k hf).1, fun y => y.elim (h1 k hf).2.1 fun e => by have := hp.old k hf; omega, (h1 k hf).2.2⟩, fun k hf => ⟨(h2 k hf).1, fun y => y.elim (h2 k hf).2.1 fun e => by have := hq.old k hf; omega, (h2 k hf).2.2⟩⟩, h0.row, fun k e => ⟨fun y => y.elim (h.rx k e).1 fun e2 => by have := h.own_lt e; omega, (h.rx k e).2⟩, h.lo, fun y => y.elim h.xb fun e => by omega, fun k y => y.elim (fun y => by have := h.xo k y; omega) fun e => by omega, h0.below, h.z0⟩
/-- What lies in X, turned. -/
theorem PL.setX (h : PL w X W b p q E hc hs tk s t) {R : Nat → Prop} (hk : Kept R W w') (hR : ∀ k, R k → X k ∧ w.heap.size ≤ k) : PL w X w' b p q E hc hs tk s t := by
  obtain ⟨F, G, hp, hq, h1, h2⟩ := h.st
  refine ⟨(hk.block b (lt_heap h.blk) fun y => h.xb (hR b y).1).trans h.blk, ⟨F, G, hp.keep hk fun k hf y => (h1 k hf).2.1 (hR k y).1, hq.keep hk fun k hf y => (h2 k hf).2.1 (hR k y).1, h1, h2⟩, h.row.keepAny fun g e => hk.block g (h.own_lt (by rw [e]; rfl)) fun y => (h.rx g (by rw [e]; rfl)).1 (hR g y).1, h.rx, h.lo, h.xb, fun k hx => Nat.lt_of_lt_of_le (h.xo k hx) hk.size, h.below.trans (hk.below h.below.size fun k y => (hR k y).2), h.z0⟩
theorem PL.kept_b (h : PL w X W b p q E hc hs tk s t) {E' : Option Addr} {hc' tk' : Nat} {hs' : List (Nat × Nat)} (hk : Kept (fun k => k = b ∨ Value.ownBlock (.slice E hs.length hc) = some k) W w') (hz : hs'.length = 0 → hc' = 0) (hb : w'.heap[b]? = some (.cells #[.pointer (some ⟨p, 0, none⟩), .pointer (some ⟨q, 0, none⟩), .slice E' hs'.length hc', .int .u64 (tk' : Int)] 35 (0, 0)))
    (hrow : OwnC w' w.heap.size 46 2 E' hs'.length hc' (rwc 2 hnv hs')) (hrx : ∀ k, Value.ownBlock (.slice E' hs'.length hc') = some k → ¬ X k ∧ k ≠ b ∧ (Value.ownBlock (.slice E hs.length hc) = some k ∨ W.heap.size ≤ k)) : PL w X w' b p q E' hc' hs' tk' s t := by
  obtain ⟨F, G, hp, hq, h1, h2⟩ := h.st
  refine ⟨hb, ⟨F, G, hp.keep hk fun k hf y => y.elim (h1 k hf).2.2.1 (h1 k hf).2.2.2.2, hq.keep hk fun k hf y => y.elim (h2 k hf).2.2.1 (h2 k hf).2.2.2, fun k hf => ⟨(h1 k hf).1, (h1 k hf).2.1, (h1 k hf).2.2.1, (h1 k hf).2.2.2.1, fun e => ?_⟩, fun k hf => ⟨(h2 k hf).1, (h2 k hf).2.1, (h2 k hf).2.2.1, fun e => ?_⟩⟩, hrow, fun k e => ⟨(hrx k e).1, (hrx k e).2.1⟩, h.lo, h.xb, fun k hx => Nat.lt_of_lt_of_le (h.xo k hx) hk.size, h.below.trans (hk.below h.below.size fun k y => y.elim (fun e => by rw [e]; exact h.lo) fun e => h.row.at_ k e), hz⟩
  · rcases (hrx k e).2.2 with q1 | q1
    · exact (h1 k hf).2.2.2.2 q1
    · have := hp.old k hf
      omega
  · rcases (hrx k e).2.2 with q1 | q1
    · exact (h2 k hf).2.2.2 q1
    · have := hq.old k hf
      omega
/-- One more tick. -/
theorem PL.ticked (h : PL w X W b p q E hc hs tk s t) (tk' : Nat) : PL w X (W.setCell ⟨b, 3, none⟩ (.int .u64 (tk' : Int))) b p q E hc hs tk' s t :=
  have hk : Kept (fun k => k = b) W (W.setCell ⟨b, 3, none⟩ (.int .u64 (tk' : Int))) := Kept.setCell (R := fun k => k = b) (Kept.refl _ W) (p := ⟨b, 3, none⟩) (.inl rfl) _
  h.kept_b (hk.mono fun k _ e => .inl e) h.z0 (blk_set h.blk 3 _) (h.row.keepAny fun g e => hk.block g (h.own_lt (by rw [e]; rfl)) fun eb => (h.rx g (by rw [e]; rfl)).2 eb) fun k e => ⟨(h.rx k e).1, (h.rx k e).2, .inl e⟩
end
end Go.Proofs.Ytkmakdhlaenaoaa
