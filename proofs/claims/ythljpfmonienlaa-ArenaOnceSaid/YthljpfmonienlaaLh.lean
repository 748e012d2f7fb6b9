/- Stage 9: the landed arena is one: what it tells, and what its calls do. -/
import Derived.Test.YthljpfmonienlaaLg
import Derived.Test.YthljpfmonienlaaAc
namespace Go.Proofs.Ythljpfmonienlaa
set_option maxRecDepth 100000
open Go.RowKit Go.Shelf
theorem PRep.cases {s : Ar} {fd : Int} {fs : Nat} {bf : Nat → Int} (h : PRep s fd fs bf) : (∃ (i : Nat) (t : List Nat), s.freed = t.reverse ++ [i] ∧ fd = (i : Int) ∧ Lk bf (bf i) t) ∨ (s.freed = [] ∧ fd = -1) := by
  have hl := h.link
  cases hr : s.freed.reverse with
  | nil =>
    rw [hr] at hl
    exact .inr ⟨by simpa using hr, hl⟩
  | cons i t =>
    rw [hr] at hl
    refine .inl ⟨i, t, ?_, hl.1, hl.2⟩
    have := congrArg List.reverse hr
    simpa using this
theorem PRep.which_last {s : Ar} {i : Nat} {t : List Nat} (h : s.freed = t.reverse ++ [i]) : s.which = some i := by
  unfold Ar.which
  rw [h, List.getLast?_append]
  rfl
theorem PRep.which_fs {s : Ar} {fd : Int} {fs : Nat} {bf : Nat → Int} (h : PRep s fd fs bf) (hf : s.freed = []) : s.which = if fs < s.has.length then some fs else none := by
  have hu : ∀ j, j < fs → s.at_ j ≠ 0 := fun j hj => (h.used j hj).resolve_right (by rw [hf]; exact List.not_mem_nil)
  by_cases hl : fs < s.has.length
  · rw [if_pos hl]
    exact Ar.which_first (by rw [hf]; rfl) hl (h.fresh fs (Nat.le_refl _) hl).1 hu
  · rw [if_neg hl]
    exact Ar.which_no (by rw [hf]; rfl) fun j hj => hu j (by omega)
theorem PRep.taken_last {s : Ar} (hs : s.Ok) {fd : Int} {fs : Nat} {bf : Nat → Int} (h : PRep s fd fs bf) {i : Nat} {t : List Nat} (hf : s.freed = t.reverse ++ [i]) (hk : Lk bf (bf i) t) : PRep (s.taken i) (bf i) fs (fun k => if k = i then -1 else bf k) := by
  have hw := PRep.which_last hf
  have hat := Ar.at_taken hs hw
  have hif : i ∈ s.freed := by rw [hf]; simp
  have hfr : (s.taken i).freed = t.reverse := by
    show s.freed.dropLast = _
    rw [hf, List.dropLast_concat]
  have hlen : (s.taken i).has.length = s.has.length := List.length_set
  have hnd := hs.nodup
  rw [hf] at hnd
  have hni : ∀ j, j ∈ t → j ≠ i := fun j hj e => by
    rw [List.nodup_append] at hnd
    exact hnd.2.2 j (by simpa using hj) i (by simp) e
  refine ⟨?_, fun j h1 h2 => ?_, fun j h1 => ?_, by rw [hlen]; exact h.le⟩
  · rw [hfr, List.reverse_reverse]
    exact hk.same fun j hj => by rw [if_neg (hni j hj)]
  · rw [hlen] at h2
    have hj := h.fresh j h1 h2
    have hji : j ≠ i := fun e => hj.2 (by rw [e]; exact hif)
    rw [hat, if_neg hji, hfr]
    refine ⟨hj.1, fun hm => hj.2 ?_⟩
    rw [hf]
    exact List.mem_append_left _ hm
  · rw [hat, hfr]
    by_cases e : j = i
    · rw [if_pos e]
      exact .inl (by omega)
    · rw [if_neg e]
      refine (h.used j h1).imp id fun hm => ?_
      rw [hf] at hm
      rcases List.mem_append.1 hm with hm | hm
      · exact hm
      · exact absurd (List.mem_singleton.1 hm) e
theorem PRep.taken_fresh {s : Ar} (hs : s.Ok) {fd : Int} {fs : Nat} {bf : Nat → Int} (h : PRep s fd fs bf) (hf : s.freed = []) (hl : fs < s.has.length) : PRep (s.taken fs) (-1) (fs + 1) (fun k => if k = fs then -1 else bf k) := by
  have hw : s.which = some fs := by rw [h.which_fs hf, if_pos hl]
  have hat := Ar.at_taken hs hw
  have hfr : (s.taken fs).freed = [] := by
    show s.freed.dropLast = _
    rw [hf]
    rfl
  have hlen : (s.taken fs).has.length = s.has.length := List.length_set
  refine ⟨?_, fun j h1 h2 => ?_, fun j h1 => ?_, by rw [hlen]; exact hl⟩
  · rw [hfr]
    rfl
  · rw [hlen] at h2
    have hj := h.fresh j (by omega) h2
    rw [hat, if_neg (by omega), hfr]
    exact ⟨hj.1, List.not_mem_nil⟩
  · rw [hat]
    by_cases e : j = fs
    · rw [if_pos e]
      exact .inl (by omega)
    · rw [if_neg e]
      refine .inl ((h.used j (by omega)).resolve_right ?_)
      rw [hf]
      exact List.not_mem_nil
theorem PRep.gone {s : Ar} (hs : s.Ok) {fd : Int} {fs : Nat} {bf : Nat → Int} (h : PRep s fd fs bf) {i : Nat} (hi : s.at_ i ≠ 0) : PRep (s.gone i) (i : Int) fs (fun k => if k = i then fd else bf k) := by
  have hat := Ar.at_gone hi
  have hlt : i < s.has.length := by
    rcases Nat.lt_or_ge i s.has.length with q | q
    · exact q
    · exact absurd (Ar.at_out q) hi
  have hnf : ¬ i ∈ s.freed := fun hm => hi (by
    unfold Ar.at_
    rw [hs.low i hm]
    rfl)
  have hlen : (s.gone i).has.length = s.has.length := List.length_set
  have hfr : (s.gone i).freed = s.freed ++ [i] := rfl
  have hifs : i < fs := by
    rcases Nat.lt_or_ge i fs with q | q
    · exact q
    · exact absurd (h.fresh i q hlt).1 hi
  refine ⟨?_, fun j h1 h2 => ?_, fun j h1 => ?_, by rw [hlen]; exact h.le⟩
  · rw [hfr, List.reverse_append]
    refine ⟨rfl, ?_⟩
    show Lk _ (if i = i then fd else bf i) s.freed.reverse
    rw [if_pos rfl]
    exact h.link.same fun j hj => by rw [if_neg (fun e => hnf (by rw [← e]; simpa using hj))]
  · rw [hlen] at h2
    have hj := h.fresh j h1 h2
    rw [hat, if_neg (by omega), hfr]
    refine ⟨hj.1, fun hm => ?_⟩
    rcases List.mem_append.1 hm with hm | hm
    · exact hj.2 hm
    · have := List.mem_singleton.1 hm
      omega
  · rw [hat, hfr]
    by_cases e : j = i
    · exact .inr (by rw [e]; simp)
    · rw [if_neg e]
      exact (h.used j h1).imp id fun hm => List.mem_append_left _ hm
theorem PRep.new (n : Nat) : PRep (Ar.new n) (-1) 0 (fun _ => 0) := by
  refine ⟨rfl, fun i _ _ => ⟨?_, List.not_mem_nil⟩, fun i h => absurd h (by omega), Nat.zero_le _⟩
  unfold Ar.at_ Ar.new
  rw [List.getElem?_replicate]
  split <;> rfl
theorem Ar.count_lt {s : Ar} (hs : s.Ok) {i : Nat} (h : s.which = some i) : s.count < s.has.length := by
  have h1 := Ar.count_taken hs h
  have h2 : (s.taken i).count ≤ (s.taken i).has.length := List.countP_le_length
  have h3 : (s.taken i).has.length = s.has.length := List.length_set
  omega
theorem Ar.count_le (s : Ar) : s.count ≤ s.has.length := List.countP_le_length
theorem PA.keep {w w' : World} {p : Nat} {s : Ar} {F R : Nat → Prop} (h : PA w p s F) (hk : Kept R w w') (hd : ∀ k, F k → ¬ R k) : PA w' p s F := by
  obtain ⟨g, c, fd, fs, bf, hx, hr⟩ := h
  exact ⟨g, c, fd, fs, bf, hx.keep hk hd, hr⟩
theorem PA.step {w w' : World} {p : Nat} {s : Ar} {F : Nat → Prop} (h : PA w p s F) (hb : Below w.heap.size w w') : PA w' p s F := h.keep (Kept.of_below hb fun _ => False) fun _ _ q => q
theorem PA.old {w : World} {p : Nat} {s : Ar} {F : Nat → Prop} (h : PA w p s F) : ∀ k, F k → k < w.heap.size := by
  obtain ⟨g, c, fd, fs, bf, hx, hr⟩ := h
  exact hx.old
theorem Ar.at_zero {s : Ar} {i : Nat} (h : ¬ i < s.has.length) : s.at_ i = 0 := Ar.at_out (by omega)
/-- At. -/
theorem pat_any {w : World} {p : Nat} {s : Ar} {F : Nat → Prop} (h : PA w p s F) (hn : s.has.length ≤ 65536) (i : Int) : Calls Try.prog 13 #[.pointer (some ⟨p, 0, none⟩), .int .i64 i] w (ret (.tuple #[.agg (s.hat i), .bool (s.is_ i)]) w) := by
  obtain ⟨g, c, fd, fs, bf, hx, hr⟩ := h
  have hno : s.is_ i = false → Calls Try.prog 13 #[.pointer (some ⟨p, 0, none⟩), .int .i64 i] w (ret (.tuple #[.agg #[.int .i64 0, .int .u64 0], .bool false]) w) → Calls Try.prog 13 #[.pointer (some ⟨p, 0, none⟩), .int .i64 i] w (ret (.tuple #[.agg (s.hat i), .bool (s.is_ i)]) w) := fun e h => by
    unfold Ar.hat
    rw [e]
    exact h
  rcases Int.lt_or_le i 0 with h0 | h0
  · exact hno (by unfold Ar.is_; simp; omega) (patG_neg w _ i h0)
  · obtain ⟨j, rfl⟩ := Int.eq_ofNat_of_zero_le h0
    have e2 : ((j : Int)).toNat = j := by omega
    by_cases hj : j < s.has.length
    · by_cases hz : s.at_ j = 0
      · exact hno (by unfold Ar.is_; rw [e2, hz]; simp) (patX_free hx hn j hj hz)
      · have e : s.is_ (j : Int) = true := by unfold Ar.is_; rw [e2]; simp [hz]
        unfold Ar.hat
        rw [e, e2]
        exact patX_yes hx hn j hj hz
    · refine hno (by unfold Ar.is_; rw [e2, Ar.at_zero hj]; simp) (patG_out w _ s.has.length (fun W hW => ?_) _ h0 (by omega))
      exact psize_c W p _ _ c (blk_cell (hx.step hW).blk 0)
theorem plive_any {w : World} {p : Nat} {s : Ar} {F : Nat → Prop} (h : PA w p s F) (hn : s.has.length ≤ 65536) (i : Int) (k : Nat) : Calls Try.prog 18 #[.pointer (some ⟨p, 0, none⟩), .agg #[.int .i64 i, .int .u64 (k : Int)]] w (ret (.bool (s.live i k)) w) := by
  have ha : ∀ W, Below w.heap.size w W → Calls Try.prog 13 #[.pointer (some ⟨p, 0, none⟩), .int .i64 i] W (ret (.tuple #[.agg (s.hat i), .bool (s.is_ i)]) W) := fun W hW => pat_any (h.step hW) hn i
  cases e : s.is_ i with
  | false =>
    have e2 : s.live i k = false := by
      refine Ar.live_no fun h => ?_
      unfold Ar.is_ at e
      simp at e
      have := e h.1
      omega
    rw [e2]
    refine pliveG_no w _ i k fun W hW => ?_
    have := ha W hW
    unfold Ar.hat at this
    rw [e] at this
    exact this
  | true =>
    have e0 := e
    unfold Ar.is_ at e0
    simp at e0
    obtain ⟨j, rfl⟩ := Int.eq_ofNat_of_zero_le e0.1
    have e2 : ((j : Int)).toNat = j := by omega
    have e3 : s.live (j : Int) k = ((s.at_ j : Int) == (k : Int)) := by
      unfold Ar.live
      rw [e2] at e0 ⊢
      by_cases q : s.at_ j = k
      · have h1 : (s.at_ j == k) = true := by simp [q]
        have h2 : ((s.at_ j : Int) == (k : Int)) = true := by simp [q]
        have h3 : (k ≠ 0) := fun e => e0.2 (by rw [q, e])
        rw [h1, h2]
        simp [h3]
      · have h1 : (s.at_ j == k) = false := by simp [q]
        have h2 : ((s.at_ j : Int) == (k : Int)) = false := by
          simp
          omega
        rw [h1, h2]
        simp
    rw [e3]
    refine pliveG_yes w _ _ _ k fun W hW => ?_
    have := ha W hW
    unfold Ar.hat at this
    rw [e, e2] at this
    exact this
theorem Ar.told_pre (s : Ar) : ∀ (n k : Nat), k ≤ n → s.told k <+: s.told n := by
  intro n
  induction n with
  | zero =>
    intro k hk
    rw [show k = 0 by omega]
    exact List.prefix_rfl
  | succ n ih =>
    intro k hk
    rcases Nat.lt_or_ge n k with q | q
    · rw [show k = n + 1 by omega]
      exact List.prefix_rfl
    · refine (ih k q).trans ?_
      rw [Ar.told_succ]
      split
      · exact List.prefix_append _ _
      · exact List.prefix_rfl
set_option maxHeartbeats 1000000 in
theorem preads {w : World} {p : Nat} {s : Ar} {F : Nat → Prop} (h : PA w p s F) (hn : s.has.length ≤ 65536) : Reads 27 p s w := fun W hW => by
  have hs := h.step hW
  have hs0 := hs
  obtain ⟨g, c, fd, fs, bf, hx, hr⟩ := hs0
  refine ⟨?_, psize_c W p _ _ c (blk_cell hx.blk 0), fun i k => plive_any hs hn i k, fun i => pat_any hs hn i, ?_⟩
  · rw [Ar.told_length]
    exact plen_c W p _ (blk_cell hx.blk 3)
  · refine (pall_any W _).mono ?_
    rintro e W' ⟨rfl, rfl⟩
    have hb : Below W.heap.size W (W.alloc (.cells #[.pointer (some ⟨p, 0, none⟩)] 24)) := below_alloc W _
    refine ⟨_, fun k => F k ∨ k = W.heap.size, rfl, hb, fun k hk => ?_, fun R hR => ?_⟩
    · have hz : (W.alloc (.cells #[.pointer (some ⟨p, 0, none⟩)] 24)).heap.size = W.heap.size + 1 := by simp
      rcases hk with hk | hk
      · have := h.old k hk
        have := hW.size
        omega
      · omega
    · have hp := hs.step hb
      refine piter_any (W.alloc (.cells #[.pointer (some ⟨p, 0, none⟩)] 24)) (some ⟨p, 0, none⟩) R W.heap.size s.has.length hn (hR _ (.inr rfl)) (by simp) (blk_cell (heap_alloc_new W _) 0) s.told s.at_ s.told_zero s.told_succ (fun k hk => s.told_pre _ k hk) (fun V hV => ?_) (fun V hV j hj => ?_)
      · obtain ⟨g, c, fd, fs, bf, hx, hr⟩ := hp.keep hV fun k hk => hR k (.inl hk)
        exact psize_c V p _ _ c (blk_cell hx.blk 0)
      · have := pat_any (hp.keep hV fun k hk => hR k (.inl hk)) hn (j : Int)
        have e2 : ((j : Int)).toNat = j := by omega
        unfold Ar.hat Ar.is_ at this
        rw [e2] at this
        by_cases e : s.at_ j = 0
        · rw [if_pos e]
          simpa [e] using this
        · rw [if_neg e]
          simpa [e] using this
/-- The landed arena is one. -/
theorem pArC : ArC PA 9 11 14 := by
  refine ⟨fun h hk hd => h.keep hk hd, fun h => h.old, ?_, ?_, ?_⟩
  · intro w p s F h hs hn hS
    obtain ⟨g, c, fd, fs, bf, hx, hr⟩ := h
    cases hw : s.which with
    | none =>
      have e1 : s.tk = s := by unfold Ar.tk; rw [hw]
      have e2 : s.tkH = #[.int .i64 0, .int .u64 0] := by unfold Ar.tkH; rw [hw]
      have e3 : s.tkE = 9 := by unfold Ar.tkE; rw [hw]
      rw [e1, e2, e3]
      refine (ptakeX_full hx (Ar.count_full hw)).mono ?_
      rintro e w' ⟨rfl, hb⟩
      exact ⟨rfl, F, ⟨g, c, fd, fs, bf, hx.step hb, hr⟩, Ext.of_below hb⟩
    | some i =>
      have e1 : s.tk = s.taken i := by unfold Ar.tk; rw [hw]
      have e2 : s.tkH = #[.int .i64 (i : Int), .int .u64 ((s.serial : Int) + 1)] := by unfold Ar.tkH; rw [hw]
      have e3 : s.tkE = 0 := by unfold Ar.tkE; rw [hw]
      have hlt := Ar.which_lt hs hw
      have hcl := Ar.count_lt hs hw
      have key : ∃ fd2 fs2, (∀ W, PX W p g s.has.length c fd fs s.count s.serial s.at_ bf F → Calls Try.prog 22 #[.pointer (some ⟨p, 0, none⟩)] W fun e w' => e = .returned (.int .i64 (i : Int)) ∧ PX w' p g s.has.length c fd2 fs2 s.count s.serial s.at_ bf F ∧ Kept (fun k => k = p) W w') ∧ PRep (s.taken i) fd2 fs2 (fun k => if k = i then -1 else bf k) := by
        rcases hr.cases with ⟨j, t, hf, hfd, hk⟩ | ⟨hf, hfd⟩
        · have := PRep.which_last hf
          rw [hw] at this
          injection this with this
          subst this
          exact ⟨bf i, fs, fun W hW => punlink_free hW hn i hlt hfd, hr.taken_last hs hf hk⟩
        · have hq := hr.which_fs hf
          rw [hw] at hq
          by_cases hl : fs < s.has.length
          · rw [if_pos hl] at hq
            injection hq with hq
            subst hq
            exact ⟨-1, i + 1, fun W hW => punlink_fresh hW hn hlt hfd, hr.taken_fresh hs hf hl⟩
          · rw [if_neg hl] at hq
            cases hq
      obtain ⟨fd2, fs2, hU, hr2⟩ := key
      rw [e1, e2, e3]
      refine (ptakeX_any hx hn hcl hS i hlt fd2 fs2 hU).mono ?_
      rintro e w' ⟨rfl, hx2, hk⟩
      refine ⟨rfl, F, ⟨g, c, fd2, fs2, _, ?_, hr2⟩, ⟨fun k hk => .inl hk, hk.mono fun k _ e => ?_⟩⟩
      · have e4 : (s.taken i).has.length = s.has.length := List.length_set
        have e5 : (s.taken i).at_ = fun k => if k = i then s.serial + 1 else s.at_ k := funext fun k => Ar.at_taken hs hw k
        have e6 : (s.taken i).serial = s.serial + 1 := rfl
        rw [e4, e5, e6, Ar.count_taken hs hw]
        exact hx2
      · rcases e with rfl | rfl
        · exact hx.mp
        · exact hx.mg
  · intro w p s F h hs hn i k
    have h0 := h
    obtain ⟨g, c, fd, fs, bf, hx, hr⟩ := h
    have hL : ∀ W, PX W p g s.has.length c fd fs s.count s.serial s.at_ bf F → Calls Try.prog 18 #[.pointer (some ⟨p, 0, none⟩), .agg #[.int .i64 i, .int .u64 (k : Int)]] W (ret (.bool (s.live i k)) W) := fun W hW => plive_any ⟨g, c, fd, fs, bf, hW, hr⟩ hn i k
    cases hl : s.live i k with
    | false =>
      rw [hl] at hL
      have e1 : s.fr i k = s := by unfold Ar.fr; rw [hl]; rfl
      have e2 : s.frE i k = 14 := by unfold Ar.frE; rw [hl]; rfl
      rw [e1, e2]
      refine (pfreeX_no hx i k hL).mono ?_
      rintro e w' ⟨rfl, hb⟩
      exact ⟨rfl, F, h0.step hb, Ext.of_below hb⟩
    | true =>
      rw [hl] at hL
      have e1 : s.fr i k = s.gone i.toNat := by unfold Ar.fr; rw [if_pos hl]
      have e2 : s.frE i k = 0 := by unfold Ar.frE; rw [if_pos hl]
      rw [e1, e2]
      obtain ⟨h1, h2, h3⟩ := Ar.live_iff.1 hl
      obtain ⟨j, rfl⟩ := Int.eq_ofNat_of_zero_le h1
      have e3 : ((j : Int)).toNat = j := by omega
      rw [e3] at h3 ⊢
      have hj0 : s.at_ j ≠ 0 := by omega
      have hlt : j < s.has.length := by
        rcases Nat.lt_or_ge j s.has.length with q | q
        · exact q
        · exact absurd (Ar.at_out q) hj0
      have hc := Ar.count_gone hj0
      refine (pfreeX_any hx hn (by omega) s.count_le j k hlt hL).mono ?_
      rintro e w' ⟨rfl, hx2, hk⟩
      refine ⟨rfl, F, ⟨g, c, _, fs, _, ?_, hr.gone hs hj0⟩, ⟨fun k hk => .inl hk, hk.mono fun k _ e => ?_⟩⟩
      · have e4 : (s.gone j).has.length = s.has.length := List.length_set
        have e5 : (s.gone j).at_ = fun k => if k = j then 0 else s.at_ k := funext fun k => Ar.at_gone hj0 k
        have e6 : (s.gone j).serial = s.serial := rfl
        rw [e4, e5, e6, show (s.gone j).count = s.count - 1 by omega]
        exact hx2
      · rcases e with rfl | rfl
        · exact hx.mp
        · exact hx.mg
  · intro w p s F h hs hn
    obtain ⟨g, c, fd, fs, bf, hx, hr⟩ := h
    refine (pcopy_any hx hn).mono ?_
    rintro e w' ⟨b, g2, c2, rfl, hx2, h1, h2, hb⟩
    exact ⟨b, _, rfl, ⟨g2, c2, fd, fs, bf, hx2, hr⟩, fun k hk => .inr ⟨by rcases hk with rfl | rfl <;> assumption, hx2.old k hk⟩, hb⟩
theorem pcopy_new {w : World} {p : Nat} {s : Ar} {F : Nat → Prop} (hn : s.has.length ≤ 65536) (h : PA w p s F) : Calls Try.prog 14 #[.pointer (some ⟨p, 0, none⟩)] w fun e w' => ∃ b F', e = .returned (.pointer (some ⟨b, 0, none⟩)) ∧ PA w' b s F' ∧ (∀ k, F' k → w.heap.size ≤ k ∧ k < w'.heap.size) ∧ Below w.heap.size w w' := by
  obtain ⟨g, c, fd, fs, bf, hx, hr⟩ := h
  refine (pcopy_any hx hn).mono ?_
  rintro e w' ⟨b, g2, c2, rfl, hx2, h1, h2, hb⟩
  exact ⟨b, _, rfl, ⟨g2, c2, fd, fs, bf, hx2, hr⟩, fun k hk => ⟨by rcases hk with rfl | rfl <;> assumption, hx2.old k hk⟩, hb⟩
theorem pnew_st (w : World) (n : Nat) (h1 : 1 ≤ n) (h2 : n ≤ 65536) : Calls Try.prog 7 #[.int .i64 (n : Int)] w fun e w' => ∃ p F, e = .returned (.tuple #[.pointer (some ⟨p, 0, none⟩), .int .i64 0]) ∧ PA w' p (Ar.new n) F ∧ (∀ k, F k → w.heap.size ≤ k) ∧ Below w.heap.size w w' := by
  refine (pnew_any w n h1 h2).mono ?_
  rintro e w' ⟨p, g, rfl, hx, h3, h4, hb⟩
  refine ⟨p, fun k => k = p ∨ k = g, rfl, ⟨g, n, -1, 0, _, ?_, PRep.new n⟩, fun k hk => by rcases hk with rfl | rfl <;> assumption, hb⟩
  have e1 : (Ar.new n).has.length = n := List.length_replicate
  have e2 : (Ar.new n).count = 0 := by
    unfold Ar.count Ar.new
    simp [List.countP_replicate]
  have e3 : (Ar.new n).at_ = fun _ => 0 := funext fun k => by
    unfold Ar.at_ Ar.new
    rw [List.getElem?_replicate]
    split <;> rfl
  rw [e1, e2, e3]
  exact hx
end Go.Proofs.Ythljpfmonienlaa
