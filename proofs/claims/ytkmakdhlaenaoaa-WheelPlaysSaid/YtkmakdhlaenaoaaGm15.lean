import Derived.Test.YtkmakdhlaenaoaaGm14
import Derived.RangeFuncNested
import Derived.RangeFuncBound
import Derived.RangeFuncLeaves
import Derived.Test.YtkmakdhlaenaoaaGm0
/- Stage 9: the landed arena is one: what it tells, and what its calls do. -/
namespace Go.Proofs.Ytkmakdhlaenaoaa
set_option maxRecDepth 100000
open Go.RowKit Go.Shelf
theorem PRep.cases {s : Ar} {fd : Int} {fs : Nat} {bf : Nat → Int} (h : PRep s fd fs bf) : (∃ (i : Nat) (t : List Nat), s.freed = t.reverse ++ [i] ∧ fd = (i : Int) ∧ Lk bf (bf i) t) ∨ (s.freed = [] ∧ fd = -1) := by
  have hl := h.link
  cases hr : s.freed.reverse with
  | nil =>
    rw [hr] at hl
    exact .inr ⟨by simpa using hr, hl⟩
  | cons i t =>
    rw [hr] at hl
    refine .inl ⟨i, t, ?_, hl.1, hl.2⟩
    have := congrArg List.reverse hr
    simpa using this
theorem PRep.which_last {s : Ar} {i : Nat} {t : List Nat} (h : s.freed = t.reverse ++ [i]) : s.which = some i := by
  unfold Ar.which
  rw [h, List.getLast?_append]
  rfl
theorem PRep.which_fs {s : Ar} {fd : Int} {fs : Nat} {bf : Nat → Int} (h : PRep s fd fs bf) (hf : s.freed = []) : s.which = if fs < s.has.length then some fs else none := by
  have hu : ∀ j, j < fs → s.at_ j ≠ 0 := fun j hj => (h.used j hj).resolve_right (by rw [hf]; exact List.not_mem_nil)
  by_cases hl : fs < s.has.length
  · rw [if_pos hl]
    exact Ar.which_first (by rw [hf]; rfl) hl (h.fresh fs (Nat.le_refl _) hl).1 hu
  · rw [if_neg hl]
    exact Ar.which_no (by rw [hf]; rfl) fun j hj => hu j (by omega)
theorem PRep.taken_last {s : Ar} (hs : s.Ok) {fd : Int} {fs : Nat} {bf : Nat → Int} (h : PRep s fd fs bf) {i : Nat} {t : List Nat} (hf : s.freed = t.reverse ++ [i]) (hk : Lk bf (bf i) t) : PRep (s.taken i) (bf i) fs (fun k => if k = i then -1 else bf k) := by
  have hw := PRep.which_last hf
  have hat := Ar.at_taken hs hw
  have hif : i ∈ s.freed := by rw [hf]; simp
  have hfr : (s.taken i).freed = t.reverse := by
    show s.freed.dropLast = _
    rw [hf, List.dropLast_concat]
  have hlen : (s.taken i).has.length = s.has.length := List.length_set
  have hnd := hs.nodup
  rw [hf] at hnd
  have hni : ∀ j, j ∈ t → j ≠ i := fun j hj e => by
    rw [List.nodup_append] at hnd
    exact hnd.2.2 j (by simpa using hj) i (by simp) e
  refine ⟨?_, fun j h1 h2 => ?_, fun j h1 => ?_, by rw [hlen]; exact h.le⟩
  · rw [hfr, List.reverse_reverse]
    exact hk.same fun j hj => by rw [if_neg (hni j hj)]
  · rw [hlen] at h2
    have hj := h.fresh j h1 h2
    have hji : j ≠ i := fun e => hj.2 (by rw [e]; exact hif)
    rw [hat, if_neg hji, hfr]
    refine ⟨hj.1, fun hm => hj.2 ?_⟩
    rw [hf]
    exact List.mem_append_left _ hm
  · rw [hat, hfr]
    by_cases e : j = i
    · rw [if_pos e]
      exact .inl (by omega)
    · rw [if_neg e]
      refine (h.used j h1).imp id fun hm => ?_
      rw [hf] at hm
      rcases List.mem_append.1 hm with hm | hm
      · exact hm
      · exact absurd (List.mem_singleton.1 hm) e
theorem PRep.taken_fresh {s : Ar} (hs : s.Ok) {fd : Int} {fs : Nat} {bf : Nat → Int} (h : PRep s fd fs bf) (hf : s.freed = []) (hl : fs < s.has.length) : PRep (s.taken fs) (-1) (fs + 1) (fun k => if k = fs then -1 else bf k) := by
  have hw : s.which = some fs := by rw [h.which_fs hf, if_pos hl]
  have hat := Ar.at_taken hs hw
  have hfr : (s.taken fs).freed = [] := by
    show s.freed.dropLast = _
    rw [hf]
    rfl
  have hlen : (s.taken fs).has.length = s.has.length := List.length_set
  refine ⟨?_, fun j h1 h2 => ?_, fun j h1 => ?_, by rw [hlen]; exact hl⟩
  · rw [hfr]
    rfl
  · rw [hlen] at h2
    have hj := h.fresh j (by omega) h2
    rw [hat, if_neg (by omega), hfr]
    exact ⟨hj.1, List.not_mem_nil⟩
  · rw [hat]
    by_cases e : j = fs
    · rw [if_pos e]
      exact .inl (by omega)
    · rw [if_neg e]
      refine .inl ((h.used j (by omega)).resolve_right ?_)
      rw [hf]
      exact List.not_mem_nil
theorem PRep.gone {s : Ar} (hs : s.Ok) {fd : Int} {fs : Nat} {bf : Nat → Int} (h : PRep s fd fs bf) {i : Nat} (hi : s.at_ i ≠ 0) : PRep (s.gone i) (i : Int) fs (fun k => if k = i then fd else bf k) := by
  have hat := Ar.at_gone hi
  have hlt : i < s.has.length := by
    rcases Nat.lt_or_ge i s.has.length with q | q
    · exact q
    · exact absurd (Ar.at_out q) hi
  have hnf : ¬ i ∈ s.freed := fun hm => hi (by
    unfold Ar.at_
    rw [hs.low i hm]
    rfl)
  have hlen : (s.gone i).has.length = s.has.length := List.length_set
  have hfr : (s.gone i).freed = s.freed ++ [i] := rfl
  have hifs : i < fs := by
    rcases Nat.lt_or_ge i fs with q | q
    · exact q
    · exact absurd (h.fresh i q hlt).1 hi
  refine ⟨?_, fun j h1 h2 => ?_, fun j h1 => ?_, by rw [hlen]; exact h.le⟩
  · rw [hfr, List.reverse_append]
    refine ⟨rfl, ?_⟩
    show Lk _ (if i = i then fd else bf i) s.freed.reverse
    rw [if_pos rfl]
    exact h.link.same fun j hj => by rw [if_neg (fun e => hnf (by rw [← e]; simpa using hj))]
  · rw [hlen] at h2
    have hj := h.fresh j h1 h2
    rw [hat, if_neg (by omega), hfr]
    refine ⟨hj.1, fun hm => ?_⟩
    rcases List.mem_append.1 hm with hm | hm
    · exact hj.2 hm
    · have := List.mem_singleton.1 hm
      omega
  · rw [hat, hfr]
    by_cases e : j = i
    · exact .inr (by rw [e]; simp)
    · rw [if_neg e]
      exact (h.used j h1).imp id fun hm => List.mem_append_left _ hm
theorem PRep.new (n : Nat) : PRep (Ar.new n) (-1) 0 (fun _ => 0) := by
  refine ⟨rfl, fun i _ _ => ⟨?_, List.not_mem_nil⟩, fun i h => absurd h (by omega), Nat.zero_le _⟩
  unfold Ar.at_ Ar.new
  rw [List.getElem?_replicate]
  split <;> rfl
theorem Ar.count_lt {s : Ar} (hs : s.Ok) {i : Nat} (h : s.which = some i) : s.count < s.has.length := by
  have h1 := Ar.count_taken hs h
  have h2 : (s.taken i).count ≤ (s.taken i).has.length := List.countP_le_length
  have h3 : (s.taken i).has.length = s.has.length := List.length_set
  omega
theorem Ar.count_le (s : Ar) : s.count ≤ s.has.length := List.countP_le_length
theorem PA.keep {w w' : World} {p : Nat} {s : Ar} {F R : Nat → Prop} (h : PA w p s F) (hk : Kept R w w') (hd : ∀ k, F k → ¬ R k) : PA w' p s F := by
  obtain ⟨g, c, fd, fs, bf, hx, hr⟩ := h
  exact ⟨g, c, fd, fs, bf, hx.keep hk hd, hr⟩
theorem PA.step {w w' : World} {p : Nat} {s : Ar} {F : Nat → Prop} (h : PA w p s F) (hb : Below w.heap.size w w') : PA w' p s F := h.keep (Kept.of_below hb fun _ => False) fun _ _ q => q
theorem PA.old {w : World} {p : Nat} {s : Ar} {F : Nat → Prop} (h : PA w p s F) : ∀ k, F k → k < w.heap.size := by
  obtain ⟨g, c, fd, fs, bf, hx, hr⟩ := h
  exact hx.old
theorem Ar.at_zero {s : Ar} {i : Nat} (h : ¬ i < s.has.length) : s.at_ i = 0 := Ar.at_out (by omega)
/-- At. -/
theorem pat_any {w : World} {p : Nat} {s : Ar} {F : Nat → Prop} (h : PA w p s F) (hn : s.has.length ≤ 65536) (i : Int) : Calls Try.prog 54 #[.pointer (some ⟨p, 0, none⟩), .int .i64 i] w (ret (.tuple #[.agg (s.hat i), .bool (s.is_ i)]) w) := by
  obtain ⟨g, c, fd, fs, bf, hx, hr⟩ := h
  have hno : s.is_ i = false → Calls Try.prog 54 #[.pointer (some ⟨p, 0, none⟩), .int .i64 i] w (ret (.tuple #[.agg #[.int .i64 0, .int .u64 0], .bool false]) w) → Calls Try.prog 54 #[.pointer (some ⟨p, 0, none⟩), .int .i64 i] w (ret (.tuple #[.agg (s.hat i), .bool (s.is_ i)]) w) := fun e h => by
    unfold Ar.hat
    rw [e]
    exact h
  rcases Int.lt_or_le i 0 with h0 | h0
  · exact hno (by unfold Ar.is_; simp; omega) (patG_neg w _ i h0)
  · obtain ⟨j, rfl⟩ := Int.eq_ofNat_of_zero_le h0
    have e2 : ((j : Int)).toNat = j := by omega
    by_cases hj : j < s.has.length
    · by_cases hz : s.at_ j = 0
      · exact hno (by unfold Ar.is_; rw [e2, hz]; simp) (patX_free hx hn j hj hz)
      · have e : s.is_ (j : Int) = true := by unfold Ar.is_; rw [e2]; simp [hz]
        unfold Ar.hat
        rw [e, e2]
        exact patX_yes hx hn j hj hz
    · refine hno (by unfold Ar.is_; rw [e2, Ar.at_zero hj]; simp) (patG_out w _ s.has.length (fun W hW => ?_) _ h0 (by omega))
      exact psize_c W p _ _ c (blk_cell (hx.step hW).blk 0)
theorem plive_any {w : World} {p : Nat} {s : Ar} {F : Nat → Prop} (h : PA w p s F) (hn : s.has.length ≤ 65536) (i : Int) (k : Nat) : Calls Try.prog 32 #[.pointer (some ⟨p, 0, none⟩), .agg #[.int .i64 i, .int .u64 (k : Int)]] w (ret (.bool (s.live i k)) w) := by
  have ha : ∀ W, Below w.heap.size w W → Calls Try.prog 54 #[.pointer (some ⟨p, 0, none⟩), .int .i64 i] W (ret (.tuple #[.agg (s.hat i), .bool (s.is_ i)]) W) := fun W hW => pat_any (h.step hW) hn i
  cases e : s.is_ i with
  | false =>
    have e2 : s.live i k = false := by
      refine Ar.live_no fun h => ?_
      unfold Ar.is_ at e
      simp at e
      have := e h.1
      omega
    rw [e2]
    refine pliveG_no w _ i k fun W hW => ?_
    have := ha W hW
    unfold Ar.hat at this
    rw [e] at this
    exact this
  | true =>
    have e0 := e
    unfold Ar.is_ at e0
    simp at e0
    obtain ⟨j, rfl⟩ := Int.eq_ofNat_of_zero_le e0.1
    have e2 : ((j : Int)).toNat = j := by omega
    have e3 : s.live (j : Int) k = ((s.at_ j : Int) == (k : Int)) := by
      unfold Ar.live
      rw [e2] at e0 ⊢
      by_cases q : s.at_ j = k
      · have h1 : (s.at_ j == k) = true := by simp [q]
        have h2 : ((s.at_ j : Int) == (k : Int)) = true := by simp [q]
        have h3 : (k ≠ 0) := fun e => e0.2 (by rw [q, e])
        rw [h1, h2]
        simp [h3]
      · have h1 : (s.at_ j == k) = false := by simp [q]
        have h2 : ((s.at_ j : Int) == (k : Int)) = false := by
          simp
          omega
        rw [h1, h2]
        simp
    rw [e3]
    refine pliveG_yes w _ _ _ k fun W hW => ?_
    have := ha W hW
    unfold Ar.hat at this
    rw [e, e2] at this
    exact this
theorem Ar.told_pre (s : Ar) : ∀ (n k : Nat), k ≤ n → s.told k <+: s.told n := by
  intro n
  induction n with
  | zero =>
    intro k hk
    rw [show k = 0 by omega]
    exact List.prefix_rfl
  | succ n ih =>
    intro k hk
    rcases Nat.lt_or_ge n k with q | q
    · rw [show k = n + 1 by omega]
      exact List.prefix_rfl
    · refine (ih k q).trans ?_
      rw [Ar.told_succ]
      split
      · exact List.prefix_append _ _
      · exact List.prefix_rfl
/-- The landed arena is one. -/
theorem pArC : ArC PA 34 66 40 := by
  refine ⟨fun h hk hd => h.keep hk hd, fun h => h.old, ?_, ?_, ?_⟩
  · intro w p s F h hs hn hS
    obtain ⟨g, c, fd, fs, bf, hx, hr⟩ := h
    cases hw : s.which with
    | none =>
      have e1 : s.tk = s := by unfold Ar.tk; rw [hw]
      have e2 : s.tkH = #[.int .i64 0, .int .u64 0] := by unfold Ar.tkH; rw [hw]
      have e3 : s.tkE = 9 := by unfold Ar.tkE; rw [hw]
      rw [e1, e2, e3]
      refine (ptakeX_full hx (Ar.count_full hw)).mono ?_
      rintro e w' ⟨rfl, hb⟩
      exact ⟨rfl, F, ⟨g, c, fd, fs, bf, hx.step hb, hr⟩, Ext.of_below hb⟩
    | some i =>
      have e1 : s.tk = s.taken i := by unfold Ar.tk; rw [hw]
      have e2 : s.tkH = #[.int .i64 (i : Int), .int .u64 ((s.serial : Int) + 1)] := by unfold Ar.tkH; rw [hw]
      have e3 : s.tkE = 0 := by unfold Ar.tkE; rw [hw]
      have hlt := Ar.which_lt hs hw
      have hcl := Ar.count_lt hs hw
      have key : ∃ fd2 fs2, (∀ W, PX W p g s.has.length c fd fs s.count s.serial s.at_ bf F → Calls Try.prog 55 #[.pointer (some ⟨p, 0, none⟩)] W fun e w' => e = .returned (.int .i64 (i : Int)) ∧ PX w' p g s.has.length c fd2 fs2 s.count s.serial s.at_ bf F ∧ Kept (fun k => k = p) W w') ∧ PRep (s.taken i) fd2 fs2 (fun k => if k = i then -1 else bf k) := by
        rcases hr.cases with ⟨j, t, hf, hfd, hk⟩ | ⟨hf, hfd⟩
        · have := PRep.which_last hf
          rw [hw] at this
          injection this with this
          subst this
          exact ⟨bf i, fs, fun W hW => punlink_free hW hn i hlt hfd, hr.taken_last hs hf hk⟩
        · have hq := hr.which_fs hf
          rw [hw] at hq
          by_cases hl : fs < s.has.length
          · rw [if_pos hl] at hq
            injection hq with hq
            subst hq
            exact ⟨-1, i + 1, fun W hW => punlink_fresh hW hn hlt hfd, hr.taken_fresh hs hf hl⟩
          · rw [if_neg hl] at hq
            cases hq
      obtain ⟨fd2, fs2, hU, hr2⟩ := key
      rw [e1, e2, e3]
      refine (ptakeX_any hx hn hcl hS i hlt fd2 fs2 hU).mono ?_
      rintro e w' ⟨rfl, hx2, hk⟩
      refine ⟨rfl, F, ⟨g, c, fd2, fs2, _, ?_, hr2⟩, ⟨fun k hk => .inl hk, hk.mono fun k _ e => ?_⟩⟩
      · have e4 : (s.taken i).has.length = s.has.length := List.length_set
        have e5 : (s.taken i).at_ = fun k => if k = i then s.serial + 1 else s.at_ k := funext fun k => Ar.at_taken hs hw k
        have e6 : (s.taken i).serial = s.serial + 1 := rfl
        rw [e4, e5, e6, Ar.count_taken hs hw]
        exact hx2
      · rcases e with rfl | rfl
        · exact hx.mp
        · exact hx.mg
  · intro w p s F h hs hn i k
    have h0 := h
    obtain ⟨g, c, fd, fs, bf, hx, hr⟩ := h
    have hL : ∀ W, PX W p g s.has.length c fd fs s.count s.serial s.at_ bf F → Calls Try.prog 32 #[.pointer (some ⟨p, 0, none⟩), .agg #[.int .i64 i, .int .u64 (k : Int)]] W (ret (.bool (s.live i k)) W) := fun W hW => plive_any ⟨g, c, fd, fs, bf, hW, hr⟩ hn i k
    cases hl : s.live i k with
    | false =>
      rw [hl] at hL
      have e1 : s.fr i k = s := by unfold Ar.fr; rw [hl]; rfl
      have e2 : s.frE i k = 14 := by unfold Ar.frE; rw [hl]; rfl
      rw [e1, e2]
      refine (pfreeX_no hx i k hL).mono ?_
      rintro e w' ⟨rfl, hb⟩
      exact ⟨rfl, F, h0.step hb, Ext.of_below hb⟩
    | true =>
      rw [hl] at hL
      have e1 : s.fr i k = s.gone i.toNat := by unfold Ar.fr; rw [if_pos hl]
      have e2 : s.frE i k = 0 := by unfold Ar.frE; rw [if_pos hl]
      rw [e1, e2]
      obtain ⟨h1, h2, h3⟩ := Ar.live_iff.1 hl
      obtain ⟨j, rfl⟩ := Int.eq_ofNat_of_zero_le h1
      have e3 : ((j : Int)).toNat = j := by omega
      rw [e3] at h3 ⊢
      have hj0 : s.at_ j ≠ 0 := by omega
      have hlt : j < s.has.length := by
        rcases Nat.lt_or_ge j s.has.length with q | q
        · exact q
        · exact absurd (Ar.at_out q) hj0
      have hc := Ar.count_gone hj0
      refine (pfreeX_any hx hn (by omega) s.count_le j k hlt hL).mono ?_
      rintro e w' ⟨rfl, hx2, hk⟩
      refine ⟨rfl, F, ⟨g, c, _, fs, _, ?_, hr.gone hs hj0⟩, ⟨fun k hk => .inl hk, hk.mono fun k _ e => ?_⟩⟩
      · have e4 : (s.gone j).has.length = s.has.length := List.length_set
        have e5 : (s.gone j).at_ = fun k => if k = j then 0 else s.at_ k := funext fun k => Ar.at_gone hj0 k
        have e6 : (s.gone j).serial = s.serial := rfl
        rw [e4, e5, e6, show (s.gone j).count = s.count - 1 by omega]
        exact hx2
      · rcases e with rfl | rfl
        · exact hx.mp
        · exact hx.mg
  · intro w p s F h hs hn
    obtain ⟨g, c, fd, fs, bf, hx, hr⟩ := h
    refine (pcopy_any hx hn).mono ?_
    rintro e w' ⟨b, g2, c2, rfl, hx2, h1, h2, hb⟩
    exact ⟨b, _, rfl, ⟨g2, c2, fd, fs, bf, hx2, hr⟩, fun k hk => .inr ⟨by rcases hk with rfl | rfl <;> assumption, hx2.old k hk⟩, hb⟩
theorem pcopy_new {w : World} {p : Nat} {s : Ar} {F : Nat → Prop} (hn : s.has.length ≤ 65536) (h : PA w p s F) : Calls Try.prog 40 #[.pointer (some ⟨p, 0, none⟩)] w fun e w' => ∃ b F', e = .returned (.pointer (some ⟨b, 0, none⟩)) ∧ PA w' b s F' ∧ (∀ k, F' k → w.heap.size ≤ k ∧ k < w'.heap.size) ∧ Below w.heap.size w w' := by
  obtain ⟨g, c, fd, fs, bf, hx, hr⟩ := h
  refine (pcopy_any hx hn).mono ?_
  rintro e w' ⟨b, g2, c2, rfl, hx2, h1, h2, hb⟩
  exact ⟨b, _, rfl, ⟨g2, c2, fd, fs, bf, hx2, hr⟩, fun k hk => ⟨by rcases hk with rfl | rfl <;> assumption, hx2.old k hk⟩, hb⟩
theorem pnew_st (w : World) (n : Nat) (h1 : 1 ≤ n) (h2 : n ≤ 65536) : Calls Try.prog 20 #[.int .i64 (n : Int)] w fun e w' => ∃ p F, e = .returned (.tuple #[.pointer (some ⟨p, 0, none⟩), .int .i64 0]) ∧ PA w' p (Ar.new n) F ∧ (∀ k, F k → w.heap.size ≤ k) ∧ Below w.heap.size w w' := by
  refine (pnew_any w n h1 h2).mono ?_
  rintro e w' ⟨p, g, rfl, hx, h3, h4, hb⟩
  refine ⟨p, fun k => k = p ∨ k = g, rfl, ⟨g, n, -1, 0, _, ?_, PRep.new n⟩, fun k hk => by rcases hk with rfl | rfl <;> assumption, hb⟩
  have e1 : (Ar.new n).has.length = n := List.length_replicate
  have e2 : (Ar.new n).count = 0 := by
    unfold Ar.count Ar.new
    simp [List.countP_replicate]
  have e3 : (Ar.new n).at_ = fun _ => 0 := funext fun k => by
    unfold Ar.at_ Ar.new
    rw [List.getElem?_replicate]
    split <;> rfl
  rw [e1, e2, e3]
  exact hx
end Go.Proofs.Ytkmakdhlaenaoaa
/- A range over a function whose iterator stores into old blocks of its own: the contract names what holds at each yield, what a round must leave behind, and the blocks X that are looked after; the caller's own words speak of X's blocks alone. -/
namespace Go.Proofs.Ytkmakdhlaenaoaa
open Go.RowKit
/-- One set of blocks beside another. -/
def Or2 (X K : Nat → Prop) : Nat → Prop := fun k => X k ∨ K k
theorem or2_assoc (X K L : Nat → Prop) : Or2 (Or2 X K) L = Or2 X (Or2 K L) := funext fun _ => propext or_assoc
/-- Speaks of blocks of X alone. -/
def OnX {β : Type} (J : (Nat → Prop) → β → World → Prop) : Prop := ∀ X s W W', J X s W → W.heap.size ≤ W'.heap.size → (∀ k, X k → W'.heap[k]? = W.heap[k]?) → J X s W'
/-- What a round that is left hands back: the caller's blocks are others, perhaps; the iterator's K are kept. -/
def Back {α γ : Type} (A : γ → (Nat → Prop) → List α → World → Prop) (J : (Nat → Prop) → List α → World → Prop) (b : γ) (K : Nat → Prop) (xs : List α) (W1 W' : World) : Prop :=
  ∃ X', J X' xs W' ∧ A b (Or2 X' K) xs W' ∧ ∀ k, K k → ¬ X' k ∧ W'.heap[k]? = W1.heap[k]?
/-- What an iterator promises: from Z0 on it hands on one by one, Y standing at each, A behind each round; Zd when all have come, Zs when a round has said no more. X: what the caller looks after; K: what the iterator does. -/
def SeqU {α γ : Type} (F : Fence) (n : Nat) (P : Program) (g : Nat) (lb : Array Value) (encs : α → Array Value) (Z0 : (Nat → Prop) → World → Prop) (Y : γ → (Nat → Prop) → List α → α → World → Prop) (A : γ → (Nat → Prop) → List α → World → Prop) (Zd Zs : (Nat → Prop) → List α → World → Prop) : Prop :=
  ∀ (l : Nat) (I Ix : (Nat → Prop) → List α → World → Prop) (X : Nat → Prop) (W : World), OnX I → OnX Ix → Z0 X W → I X [] W →
    (∀ b X K pre x W1, I X pre W1 → Y b (Or2 X K) pre x W1 → (∀ k, K k → ¬ X k) → YieldAt F (n - 1) P l (encs x) W1 fun e W' =>
      (e = .returned (.bool true) ∧ Back A I b K (pre ++ [x]) W1 W') ∨ (e = .returned (.bool false) ∧ Back A Ix b K (pre ++ [x]) W1 W')) →
    CallsIn F n P g (#[.func (.yield l) #[] #[]] ++ lb) W fun e W' => (∃ v, e = .returned v) ∧ ((∃ X' xs, I X' xs W' ∧ Zd X' xs W') ∨ (∃ X' pre, Ix X' pre W' ∧ Zs X' pre W'))
/-- How the body of a round may be left. -/
def ownPostU {α γ : Type} (A : γ → (Nat → Prop) → List α → World → Prop) (I : (Nat → Prop) → List α → World → Prop) (Ix : Code → (Nat → Prop) → List α → World → Prop) (b : γ) (K : Nat → Prop) (xs : List α) (W : World) : Exit → Act → World → Prop
  | .normal, _, W' => Back A I b K xs W W'
  | .ret, _, W' => Back A (Ix .ret) b K xs W W'
  | .exit id, _, W' => Back A (Ix (.exit id)) b K xs W W'
  | .goto t, _, W' => Back A (Ix (.goto t)) b K xs W W'
  | .panic _, _, _ => False
  | .outgrown, _, _ => False
theorem OnX.put {β : Type} {J : (Nat → Prop) → β → World → Prop} (h : OnX J) {X : Nat → Prop} {s : β} {W : World} {l : Nat} {o : Obj} (hl : ¬ X l) (hs : J X s W) : J X s (W.putObj l o) :=
  h X s W _ hs (by simp [World.putObj]) fun k hk => World.putObj_heap_other fun e => hl (e ▸ hk)
theorem wpIn_rangeFunc_U {F : Fence} {n : Nat} {P : Program} {α γ : Type} {g : Operand} {ps : Array Tmp} {assign body : Code} {Q : Exit → Act → World → Prop} {a : Act} {w : World}
    (hro : F.round = none) (h1 : 1 ≤ n) {gf : Nat} {lb : Array Value} (hg : a.eval g = .func (.func gf) #[] lb) (hFg : F.fn gf) (eg : ∀ args w, (callFunc gf args).run P w = .ok (.enter gf args) w)
    {encs : α → Array Value} {Z0 : (Nat → Prop) → World → Prop} {Y : γ → (Nat → Prop) → List α → α → World → Prop} {A : γ → (Nat → Prop) → List α → World → Prop} {Zd Zs : (Nat → Prop) → List α → World → Prop} (hseq : SeqU F (n - 1) P gf lb encs Z0 Y A Zd Zs) (hps : ∀ x, (encs x).size = ps.size)
    (X H : Nat → Prop) (hX : ∀ k, X k → k < w.heap.size) (hH : H = fun k => k = w.heap.size ∨ k = w.heap.size + 1)
    (hY : ∀ b X pre x W l o, w.heap.size ≤ l → X l → Y b X pre x W → Y b X pre x (W.putObj l o)) (hA : ∀ b X pre W l o, w.heap.size ≤ l → X l → A b X pre W → A b X pre (W.putObj l o)) (hZd : ∀ X pre W l o, w.heap.size ≤ l → X l → Zd X pre W → Zd X pre (W.putObj l o)) (hZs : ∀ X pre W l o, w.heap.size ≤ l → X l → Zs X pre W → Zs X pre (W.putObj l o))
    (hZ0 : ∀ o, Z0 (Or2 X H) ((w.alloc (.deferred (some []))).alloc o))
    (I : (Nat → Prop) → List α → World → Prop) (Ix : Code → (Nat → Prop) → List α → World → Prop) (hI : OnX I) (hIx : ∀ c, OnX (Ix c)) (h0 : I X [] w) (a₁ : α → Act)
    (hassign : ∀ (l : Nat) (x : α) (W : World) (K : Act → World → Prop), K (a₁ x) W →
      assign.wpIn (F.inRound l) (n - 1 - 1) P (Exit.then K (fun _ _ _ => False)) { tmps := (ps.zip (encs x)).foldl (fun t (p, v) => t.setIfInBounds p v) a.tmps, defers := [] } W)
    (hbody : ∀ (l : Nat) (b : γ) (X K : Nat → Prop) (pre : List α) (x : α) (W : World), I X pre W → Y b (Or2 X K) pre x W → (∀ k, K k → ¬ X k) → body.wpIn (F.inRound l) (n - 1 - 1) P (ownPostU A I Ix b K (pre ++ [x]) W) (a₁ x) W)
    (hdone : ∀ (X : Nat → Prop) (xs : List α) (W : World), I X xs W → Zd (Or2 X H) xs W → (∀ k, H k → ¬ X k) → W.heap[w.heap.size]? = some (.deferred (some [])) → Q .normal { a with defers := { target := .collected w.heap.size, args := #[] } :: a.defers } W)
    (hstop : ∀ (c : Code) (X : Nat → Prop) (pre : List α) (W : World), Ix c X pre W → Zs (Or2 X H) pre W → (∀ k, H k → ¬ X k) → W.heap[w.heap.size]? = some (.deferred (some [])) → c.wpIn F n P Q { a with defers := { target := .collected w.heap.size, args := #[] } :: a.defers } W) :
    (Code.rangeFunc g ps assign body).wpIn F n P Q a w := by
  refine wpIn_rangeFunc ?_
  intro fn hfn
  rw [hro]
  obtain ⟨rec, hrec⟩ : ∃ rec : LoopState → Option Code → Loop, rec = fun st pe => { state := st, pending := pe, fn, tmps := a.tmps, params := ps, assign, body, defers := w.heap.size } := ⟨_, rfl⟩
  have hH0 : H w.heap.size := by rw [hH]; exact .inl rfl
  have hH1 : H (w.heap.size + 1) := by rw [hH]; exact .inr rfl
  have hXH : ∀ k, H k → ¬ X k := fun k hk hx => by
    have := hX k hx
    rw [hH] at hk
    rcases hk with rfl | rfl <;> omega
  obtain ⟨W1, hW1⟩ : ∃ W1, (w.alloc (.deferred (some []))).alloc (.loop (rec .ready none)) = W1 := ⟨_, rfl⟩
  have hL1 : W1.heap[w.heap.size + 1]? = some (.loop (rec .ready none)) := by
    rw [← hW1]
    have := World.alloc_heap_new (w.alloc (.deferred (some []))) (.loop (rec .ready none))
    rwa [World.size_alloc] at this
  have hK1 : W1.heap[w.heap.size]? = some (.deferred (some [])) := by
    rw [← hW1]
    exact (Below.heap_alloc _ _ _ (by simp)).trans (World.alloc_heap_new w _)
  have hI1 : I X [] W1 := by
    refine hI X _ w _ h0 ?_ fun k hk => ?_
    · rw [← hW1]
      simp only [World.size_alloc]
      omega
    · rw [← hW1]
      exact (Below.heap_alloc _ _ _ (by have := hX k hk; simp; omega)).trans (Below.heap_alloc _ _ _ (hX k hk))
  have hz1 : Z0 (Or2 X H) W1 := by
    rw [← hW1]
    exact hZ0 _
  refine ⟨w.heap.size + 1, [{ target := .collected w.heap.size, args := #[] }], W1, { target := .fn (.func gf) lb, args := #[.func (.yield (w.heap.size + 1)) #[] #[]] }, W1, gf,
    #[.func (.yield (w.heap.size + 1)) #[] #[]] ++ lb, W1, ?_, ?_, ?_, ?_, fun _ => h1, ?_⟩
  · rw [← hW1, hrec]
    exact run_enterLoop_outer _ _ _ _ _
  · simp only [resolve, hg]
    simp [go_sem]
  · intro f' hf'
    simp [Target.leads] at hf'
    subst hf'
    exact hFg
  · simp [invoke, go_sem, eg]
  · obtain ⟨LI, hLI⟩ : ∃ LI : (Nat → Prop) → List α → World → Prop, LI = fun Y pre W => ∃ X, Y = Or2 X H ∧ (∀ k, H k → ¬ X k) ∧ I X pre W ∧ W.heap[w.heap.size + 1]? = some (.loop (rec .ready none)) ∧ W.heap[w.heap.size]? = some (.deferred (some [])) := ⟨_, rfl⟩
    obtain ⟨LX, hLX⟩ : ∃ LX : (Nat → Prop) → List α → World → Prop, LX = fun Y pre W => ∃ X c, Y = Or2 X H ∧ (∀ k, H k → ¬ X k) ∧ Ix c X pre W ∧ W.heap[w.heap.size + 1]? = some (.loop (rec .done (some c))) ∧ W.heap[w.heap.size]? = some (.deferred (some [])) := ⟨_, rfl⟩
    have hIl : OnX LI := fun Y s W W' h hs hk => by
      subst hLI
      obtain ⟨X, rfl, hd, h1, h2, h3⟩ := h
      exact ⟨X, rfl, hd, hI X s W W' h1 hs fun k q => hk k (.inl q), (hk _ (.inr hH1)).trans h2, (hk _ (.inr hH0)).trans h3⟩
    have hIxl : OnX LX := fun Y s W W' h hs hk => by
      subst hLX
      obtain ⟨X, c, rfl, hd, h1, h2, h3⟩ := h
      exact ⟨X, c, rfl, hd, hIx c X s W W' h1 hs fun k q => hk k (.inl q), (hk _ (.inr hH1)).trans h2, (hk _ (.inr hH0)).trans h3⟩
    have h00 : LI (Or2 X H) [] W1 := by
      subst hLI
      exact ⟨X, rfl, hXH, hI1, hL1, hK1⟩
    refine (hseq (w.heap.size + 1) LI LX (Or2 X H) W1 hIl hIxl hz1 h00 ?_).mono ?_
    · rintro b XH K pre x W hli hy hK
      subst hLI
      obtain ⟨X, rfl, hd, hi, hl, hk⟩ := hli
      have hlt : w.heap.size + 1 < W.heap.size := (Array.getElem?_eq_some_iff.1 hl).1
      have hyr := run_yield (P := P) (args := encs x) hl (by rw [hrec]; exact hps x)
      rw [hrec] at hyr
      refine ⟨fn, _, assign, body, hyr, roundIn_of_wpIn hfn (hassign _ x W _ ?_)⟩
      refine ⟨_, run_beginRound hl (by rw [hrec]), ?_⟩
      have hl2 : (W.putObj (w.heap.size + 1) (.loop { rec .ready none with state := .busy })).heap[w.heap.size + 1]? = some (.loop { rec .ready none with state := .busy }) := World.putObj_heap_same hlt
      have hk2 : (W.putObj (w.heap.size + 1) (.loop { rec .ready none with state := .busy })).heap[w.heap.size]? = some (.deferred (some [])) := (World.putObj_heap_other (by omega)).trans hk
      have hHK : ∀ k, Or2 H K k → ¬ X k := fun k hk hx => by
        rcases hk with q | q
        · exact hd k q hx
        · exact hK k q (.inl hx)
      have hy2 := hY _ _ _ _ _ (w.heap.size + 1) (.loop { rec .ready none with state := .busy }) (by omega) (.inl (.inr hH1)) hy
      rw [or2_assoc] at hy2
      refine wpIn_mono (hbody _ b X (Or2 H K) pre x _ (hI.put (hd _ hH1) hi) hy2 hHK) ?_
      have fin : ∀ (jump : Option Code) (W3 : World) (X' : Nat → Prop), (∀ k, Or2 H K k → ¬ X' k ∧ W3.heap[k]? = (W.putObj (w.heap.size + 1) (.loop { rec .ready none with state := .busy })).heap[k]?) →
          (Instr.endRound (w.heap.size + 1) jump).run P W3 = .ok (.bool jump.isNone) (W3.putObj (w.heap.size + 1) (.loop (rec (if jump.isNone then .ready else .done) jump))) ∧
          (W3.putObj (w.heap.size + 1) (.loop (rec (if jump.isNone then .ready else .done) jump))).heap[w.heap.size + 1]? = some (.loop (rec (if jump.isNone then .ready else .done) jump)) ∧
          (W3.putObj (w.heap.size + 1) (.loop (rec (if jump.isNone then .ready else .done) jump))).heap[w.heap.size]? = some (.deferred (some [])) ∧ (∀ k, H k → ¬ X' k) ∧
          (∀ k, K k → ¬ Or2 X' H k ∧ (W3.putObj (w.heap.size + 1) (.loop (rec (if jump.isNone then .ready else .done) jump))).heap[k]? = W.heap[k]?) := fun jump W3 X' hk3 => by
        have hl3 := (hk3 _ (.inl hH1)).2.trans hl2
        have hd3 := (hk3 _ (.inl hH0)).2.trans hk2
        have := run_endRound (P := P) jump hl3
        rw [hrec] at this ⊢
        refine ⟨this, World.putObj_heap_same (Array.getElem?_eq_some_iff.1 hl3).1, (World.putObj_heap_other (by omega)).trans hd3, fun k hk => (hk3 k (.inl hk)).1, fun k hk => ?_⟩
        have hne : k ≠ w.heap.size + 1 := fun e => hK k hk (by subst e; exact .inr hH1)
        refine ⟨fun hx => ?_, (World.putObj_heap_other hne).trans ((hk3 k (.inr hk)).2.trans (World.putObj_heap_other hne))⟩
        rcases hx with hx | hx
        · exact (hk3 k (.inr hk)).1 hx
        · exact hK k hk (.inr hx)
      have back : ∀ (jump : Option Code) (J : (Nat → Prop) → List α → World → Prop) (W3 : World), OnX J → Back A J b (Or2 H K) (pre ++ [x]) (W.putObj (w.heap.size + 1) (.loop { rec .ready none with state := .busy })) W3 →
          ∃ W4, (Instr.endRound (w.heap.size + 1) jump).run P W3 = .ok (.bool jump.isNone) W4 ∧ ∃ X', (∀ k, H k → ¬ X' k) ∧ J X' (pre ++ [x]) W4 ∧ W4.heap[w.heap.size + 1]? = some (.loop (rec (if jump.isNone then .ready else .done) jump)) ∧ W4.heap[w.heap.size]? = some (.deferred (some [])) ∧
            A b (Or2 (Or2 X' H) K) (pre ++ [x]) W4 ∧ ∀ k, K k → ¬ Or2 X' H k ∧ W4.heap[k]? = W.heap[k]? := fun jump J W3 hJ hb => by
        obtain ⟨X', hj, ha, hkk⟩ := hb
        obtain ⟨f1, f2, f3, f4, f5⟩ := fin jump W3 X' hkk
        refine ⟨_, f1, X', f4, hJ.put (f4 _ hH1) hj, f2, f3, ?_, f5⟩
        rw [or2_assoc]
        exact hA _ _ _ _ _ _ (by omega) (.inr (.inl hH1)) ha
      rintro e a3 W3 hp
      cases e with
      | normal =>
        obtain ⟨W4, hr, X', f1, f2, f3, f4, f5, f6⟩ := back none I W3 hI hp
        exact ⟨_, _, hr, .inl ⟨rfl, Or2 X' H, ⟨X', rfl, f1, f2, f3, f4⟩, f5, f6⟩⟩
      | ret =>
        obtain ⟨W4, hr, X', f1, f2, f3, f4, f5, f6⟩ := back (some .ret) (Ix .ret) W3 (hIx _) hp
        exact ⟨_, _, hr, .inr ⟨rfl, Or2 X' H, (by rw [hLX]; exact ⟨X', .ret, rfl, f1, f2, f3, f4⟩), f5, f6⟩⟩
      | exit id =>
        obtain ⟨W4, hr, X', f1, f2, f3, f4, f5, f6⟩ := back (some (.exit id)) (Ix (.exit id)) W3 (hIx _) hp
        exact ⟨_, _, hr, .inr ⟨rfl, Or2 X' H, (by rw [hLX]; exact ⟨X', .exit id, rfl, f1, f2, f3, f4⟩), f5, f6⟩⟩
      | goto t =>
        obtain ⟨W4, hr, X', f1, f2, f3, f4, f5, f6⟩ := back (some (.goto t)) (Ix (.goto t)) W3 (hIx _) hp
        exact ⟨_, _, hr, .inr ⟨rfl, Or2 X' H, (by rw [hLX]; exact ⟨X', .goto t, rfl, f1, f2, f3, f4⟩), f5, f6⟩⟩
      | panic ch => exact hp.elim
      | outgrown => exact hp.elim
    · rintro e W2 ⟨⟨v, rfl⟩, h⟩
      subst hLI hLX
      rcases h with ⟨XH, xs, ⟨X, rfl, hd, hi, hl, hk⟩, hz⟩ | ⟨XH, pre, ⟨X, c, rfl, hd, hi, hl, hk⟩, hz⟩
      · exact ⟨none, _, by have := run_endLoop (P := P) hl (by rw [hrec]; simp); rw [hrec] at this; exact this, hdone X xs _ (hI.put (hd _ hH1) hi) (hZd _ _ _ _ _ (by omega) (.inr hH1) hz) hd ((World.putObj_heap_other (by omega)).trans hk)⟩
      · exact ⟨some c, _, by have := run_endLoop (P := P) hl (by rw [hrec]; simp); rw [hrec] at this; exact this, hstop c X pre _ ((hIx c).put (hd _ hH1) hi) (hZs _ _ _ _ _ (by omega) (.inr hH1) hz) hd ((World.putObj_heap_other (by omega)).trans hk)⟩
end Go.Proofs.Ytkmakdhlaenaoaa
