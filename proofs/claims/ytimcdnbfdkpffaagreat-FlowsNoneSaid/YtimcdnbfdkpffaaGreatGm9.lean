import Derived.Test.YtimcdnbfdkpffaaGreatGm6
import Derived.Test.YtimcdnbfdkpffaaGreatGm8
import Derived.Test.YtimcdnbfdkpffaaGreatGm5
import Derived.RangeFuncNested
import Derived.RangeFuncBound
import Derived.RangeFuncLeaves
import Derived.Test.YtimcdnbfdkpffaaGreatGm0
import Derived.Test.YtimcdnbfdkpffaaGreatGm2
import Derived.Sort.QuietThIn
import Derived.RangeFuncCalls
import Derived.Test.YtimcdnbfdkpffaaGreatGm1
/- Stage 9: an arena, whoever's: what holds of it, and what its calls do; the document's is one. -/
namespace Go.Proofs.YtimcdnbfdkpffaaGreat
set_option maxRecDepth 100000
open Go.RowKit
namespace Ar
/-- Behind Take; the handle and the error that are told. -/
def tk (s : Ar) : Ar := match s.which with
  | none => s
  | some i => s.taken i
def tkH (s : Ar) : Array Value := match s.which with
  | none => #[.int .i64 0, .int .u64 0]
  | some i => #[.int .i64 (i : Int), .int .u64 ((s.serial : Int) + 1)]
def tkE (s : Ar) : Int := match s.which with
  | none => 9
  | some _ => 0
/-- Behind Free; the error that is told. -/
def fr (s : Ar) (i : Int) (k : Nat) : Ar := if s.live i k = true then s.gone i.toNat else s
def frE (s : Ar) (i : Int) (k : Nat) : Int := if s.live i k = true then 0 else 14
end Ar
/-- A footprint that has grown by new blocks alone; nothing old was turned but it. -/
structure Ext (F F' : Nat → Prop) (w w' : World) : Prop where
  sub : ∀ k, F' k → F k ∨ w.heap.size ≤ k ∧ k < w'.heap.size
  kept : Kept F w w'
/-- An arena, whoever's: PA w p s F: at p stands what is s, in the blocks of F. -/
structure ArC (PA : World → Nat → Ar → (Nat → Prop) → Prop) (take free copy : FuncId) : Prop where
  keep : ∀ {w w' : World} {p : Nat} {s : Ar} {F R : Nat → Prop}, PA w p s F → Kept R w w' → (∀ k, F k → ¬ R k) → PA w' p s F
  old : ∀ {w : World} {p : Nat} {s : Ar} {F : Nat → Prop}, PA w p s F → ∀ k, F k → k < w.heap.size
  take : ∀ {w : World} {p : Nat} {s : Ar} {F : Nat → Prop}, PA w p s F → s.Ok → s.has.length ≤ 65536 → s.serial ≤ 4611686018427387904 →
    Calls Tryz.prog take #[.pointer (some ⟨p, 0, none⟩)] w fun e w' => e = .returned (.tuple #[.agg s.tkH, .int .i64 s.tkE]) ∧ ∃ F', PA w' p s.tk F' ∧ Ext F F' w w'
  free : ∀ {w : World} {p : Nat} {s : Ar} {F : Nat → Prop}, PA w p s F → s.Ok → s.has.length ≤ 65536 → ∀ (i : Int) (k : Nat),
    Calls Tryz.prog free #[.pointer (some ⟨p, 0, none⟩), .agg #[.int .i64 i, .int .u64 (k : Int)]] w fun e w' => e = .returned (.int .i64 (s.frE i k)) ∧ ∃ F', PA w' p (s.fr i k) F' ∧ Ext F F' w w'
  copy : ∀ {w : World} {p : Nat} {s : Ar} {F : Nat → Prop}, PA w p s F → s.Ok → s.has.length ≤ 65536 →
    Calls Tryz.prog copy #[.pointer (some ⟨p, 0, none⟩)] w fun e w' => ∃ b F', e = .returned (.pointer (some ⟨b, 0, none⟩)) ∧ PA w' b s F' ∧ (∀ k, F' k → F k ∨ w.heap.size ≤ k ∧ k < w'.heap.size) ∧ Below w.heap.size w w'
theorem Ext.of_below {F : Nat → Prop} {w w' : World} (h : Below w.heap.size w w') : Ext F F w w' := ⟨fun _ h => .inl h, Kept.of_below h _⟩
end Go.Proofs.YtimcdnbfdkpffaaGreat
/- Stage 9: the landed arena is one: what it tells, and what its calls do. -/
namespace Go.Proofs.YtimcdnbfdkpffaaGreat
set_option maxRecDepth 100000
open Go.RowKit Go.Shelf
theorem PRep.cases {s : Ar} {fd : Int} {fs : Nat} {bf : Nat → Int} (h : PRep s fd fs bf) : (∃ (i : Nat) (t : List Nat), s.freed = t.reverse ++ [i] ∧ fd = (i : Int) ∧ Lk bf (bf i) t) ∨ (s.freed = [] ∧ fd = -1) := by
  have hl := h.link
  cases hr : s.freed.reverse with
  | nil =>
    rw [hr] at hl
    exact .inr ⟨by simpa using hr, hl⟩
  | cons i t =>
    rw [hr] at hl
    refine .inl ⟨i, t, ?_, hl.1, hl.2⟩
    have := congrArg List.reverse hr
    simpa using this
theorem PRep.which_last {s : Ar} {i : Nat} {t : List Nat} (h : s.freed = t.reverse ++ [i]) : s.which = some i := by
  unfold Ar.which
  rw [h, List.getLast?_append]
  rfl
theorem PRep.which_fs {s : Ar} {fd : Int} {fs : Nat} {bf : Nat → Int} (h : PRep s fd fs bf) (hf : s.freed = []) : s.which = if fs < s.has.length then some fs else none := by
  have hu : ∀ j, j < fs → s.at_ j ≠ 0 := fun j hj => (h.used j hj).resolve_right (by rw [hf]; exact List.not_mem_nil)
  by_cases hl : fs < s.has.length
  · rw [if_pos hl]
    exact Ar.which_first (by rw [hf]; rfl) hl (h.fresh fs (Nat.le_refl _) hl).1 hu
  · rw [if_neg hl]
    exact Ar.which_no (by rw [hf]; rfl) fun j hj => hu j (by omega)
theorem PRep.taken_last {s : Ar} (hs : s.Ok) {fd : Int} {fs : Nat} {bf : Nat → Int} (h : PRep s fd fs bf) {i : Nat} {t : List Nat} (hf : s.freed = t.reverse ++ [i]) (hk : Lk bf (bf i) t) : PRep (s.taken i) (bf i) fs (fun k => if k = i then -1 else bf k) := by
  have hw := PRep.which_last hf
  have hat := Ar.at_taken hs hw
  have hif : i ∈ s.freed := by rw [hf]; simp
  have hfr : (s.taken i).freed = t.reverse := by
    show s.freed.dropLast = _
    rw [hf, List.dropLast_concat]
  have hlen : (s.taken i).has.length = s.has.length := List.length_set
  have hnd := hs.nodup
  rw [hf] at hnd
  have hni : ∀ j, j ∈ t → j ≠ i := fun j hj e => by
    rw [List.nodup_append] at hnd
    exact hnd.2.2 j (by simpa using hj) i (by simp) e
  refine ⟨?_, fun j h1 h2 => ?_, fun j h1 => ?_, by rw [hlen]; exact h.le⟩
  · rw [hfr, List.reverse_reverse]
    exact hk.same fun j hj => by rw [if_neg (hni j hj)]
  · rw [hlen] at h2
    have hj := h.fresh j h1 h2
    have hji : j ≠ i := fun e => hj.2 (by rw [e]; exact hif)
    rw [hat, if_neg hji, hfr]
    refine ⟨hj.1, fun hm => hj.2 ?_⟩
    rw [hf]
    exact List.mem_append_left _ hm
  · rw [hat, hfr]
    by_cases e : j = i
    · rw [if_pos e]
      exact .inl (by omega)
    · rw [if_neg e]
      refine (h.used j h1).imp id fun hm => ?_
      rw [hf] at hm
      rcases List.mem_append.1 hm with hm | hm
      · exact hm
      · exact absurd (List.mem_singleton.1 hm) e
theorem PRep.taken_fresh {s : Ar} (hs : s.Ok) {fd : Int} {fs : Nat} {bf : Nat → Int} (h : PRep s fd fs bf) (hf : s.freed = []) (hl : fs < s.has.length) : PRep (s.taken fs) (-1) (fs + 1) (fun k => if k = fs then -1 else bf k) := by
  have hw : s.which = some fs := by rw [h.which_fs hf, if_pos hl]
  have hat := Ar.at_taken hs hw
  have hfr : (s.taken fs).freed = [] := by
    show s.freed.dropLast = _
    rw [hf]
    rfl
  have hlen : (s.taken fs).has.length = s.has.length := List.length_set
  refine ⟨?_, fun j h1 h2 => ?_, fun j h1 => ?_, by rw [hlen]; exact hl⟩
  · rw [hfr]
    rfl
  · rw [hlen] at h2
    have hj := h.fresh j (by omega) h2
    rw [hat, if_neg (by omega), hfr]
    exact ⟨hj.1, List.not_mem_nil⟩
  · rw [hat]
    by_cases e : j = fs
    · rw [if_pos e]
      exact .inl (by omega)
    · rw [if_neg e]
      refine .inl ((h.used j (by omega)).resolve_right ?_)
      rw [hf]
      exact List.not_mem_nil
theorem PRep.gone {s : Ar} (hs : s.Ok) {fd : Int} {fs : Nat} {bf : Nat → Int} (h : PRep s fd fs bf) {i : Nat} (hi : s.at_ i ≠ 0) : PRep (s.gone i) (i : Int) fs (fun k => if k = i then fd else bf k) := by
  have hat := Ar.at_gone hi
  have hlt : i < s.has.length := by
    rcases Nat.lt_or_ge i s.has.length with q | q
    · exact q
    · exact absurd (Ar.at_out q) hi
  have hnf : ¬ i ∈ s.freed := fun hm => hi (by
    unfold Ar.at_
    rw [hs.low i hm]
    rfl)
  have hlen : (s.gone i).has.length = s.has.length := List.length_set
  have hfr : (s.gone i).freed = s.freed ++ [i] := rfl
  have hifs : i < fs := by
    rcases Nat.lt_or_ge i fs with q | q
    · exact q
    · exact absurd (h.fresh i q hlt).1 hi
  refine ⟨?_, fun j h1 h2 => ?_, fun j h1 => ?_, by rw [hlen]; exact h.le⟩
  · rw [hfr, List.reverse_append]
    refine ⟨rfl, ?_⟩
    show Lk _ (if i = i then fd else bf i) s.freed.reverse
    rw [if_pos rfl]
    exact h.link.same fun j hj => by rw [if_neg (fun e => hnf (by rw [← e]; simpa using hj))]
  · rw [hlen] at h2
    have hj := h.fresh j h1 h2
    rw [hat, if_neg (by omega), hfr]
    refine ⟨hj.1, fun hm => ?_⟩
    rcases List.mem_append.1 hm with hm | hm
    · exact hj.2 hm
    · have := List.mem_singleton.1 hm
      omega
  · rw [hat, hfr]
    by_cases e : j = i
    · exact .inr (by rw [e]; simp)
    · rw [if_neg e]
      exact (h.used j h1).imp id fun hm => List.mem_append_left _ hm
theorem PRep.new (n : Nat) : PRep (Ar.new n) (-1) 0 (fun _ => 0) := by
  refine ⟨rfl, fun i _ _ => ⟨?_, List.not_mem_nil⟩, fun i h => absurd h (by omega), Nat.zero_le _⟩
  unfold Ar.at_ Ar.new
  rw [List.getElem?_replicate]
  split <;> rfl
theorem Ar.count_lt {s : Ar} (hs : s.Ok) {i : Nat} (h : s.which = some i) : s.count < s.has.length := by
  have h1 := Ar.count_taken hs h
  have h2 : (s.taken i).count ≤ (s.taken i).has.length := List.countP_le_length
  have h3 : (s.taken i).has.length = s.has.length := List.length_set
  omega
theorem Ar.count_le (s : Ar) : s.count ≤ s.has.length := List.countP_le_length
theorem PA.keep {w w' : World} {p : Nat} {s : Ar} {F R : Nat → Prop} (h : PA w p s F) (hk : Kept R w w') (hd : ∀ k, F k → ¬ R k) : PA w' p s F := by
  obtain ⟨g, c, fd, fs, bf, hx, hr⟩ := h
  exact ⟨g, c, fd, fs, bf, hx.keep hk hd, hr⟩
theorem PA.step {w w' : World} {p : Nat} {s : Ar} {F : Nat → Prop} (h : PA w p s F) (hb : Below w.heap.size w w') : PA w' p s F := h.keep (Kept.of_below hb fun _ => False) fun _ _ q => q
theorem PA.old {w : World} {p : Nat} {s : Ar} {F : Nat → Prop} (h : PA w p s F) : ∀ k, F k → k < w.heap.size := by
  obtain ⟨g, c, fd, fs, bf, hx, hr⟩ := h
  exact hx.old
theorem Ar.at_zero {s : Ar} {i : Nat} (h : ¬ i < s.has.length) : s.at_ i = 0 := Ar.at_out (by omega)
/-- At. -/
theorem pat_any {w : World} {p : Nat} {s : Ar} {F : Nat → Prop} (h : PA w p s F) (hn : s.has.length ≤ 65536) (i : Int) : Calls Tryz.prog 136 #[.pointer (some ⟨p, 0, none⟩), .int .i64 i] w (ret (.tuple #[.agg (s.hat i), .bool (s.is_ i)]) w) := by
  obtain ⟨g, c, fd, fs, bf, hx, hr⟩ := h
  have hno : s.is_ i = false → Calls Tryz.prog 136 #[.pointer (some ⟨p, 0, none⟩), .int .i64 i] w (ret (.tuple #[.agg #[.int .i64 0, .int .u64 0], .bool false]) w) → Calls Tryz.prog 136 #[.pointer (some ⟨p, 0, none⟩), .int .i64 i] w (ret (.tuple #[.agg (s.hat i), .bool (s.is_ i)]) w) := fun e h => by
    unfold Ar.hat
    rw [e]
    exact h
  rcases Int.lt_or_le i 0 with h0 | h0
  · exact hno (by unfold Ar.is_; simp; omega) (patG_neg w _ i h0)
  · obtain ⟨j, rfl⟩ := Int.eq_ofNat_of_zero_le h0
    have e2 : ((j : Int)).toNat = j := by omega
    by_cases hj : j < s.has.length
    · by_cases hz : s.at_ j = 0
      · exact hno (by unfold Ar.is_; rw [e2, hz]; simp) (patX_free hx hn j hj hz)
      · have e : s.is_ (j : Int) = true := by unfold Ar.is_; rw [e2]; simp [hz]
        unfold Ar.hat
        rw [e, e2]
        exact patX_yes hx hn j hj hz
    · refine hno (by unfold Ar.is_; rw [e2, Ar.at_zero hj]; simp) (patG_out w _ s.has.length (fun W hW => ?_) _ h0 (by omega))
      exact psize_c W p _ _ c (blk_cell (hx.step hW).blk 0)
theorem plive_any {w : World} {p : Nat} {s : Ar} {F : Nat → Prop} (h : PA w p s F) (hn : s.has.length ≤ 65536) (i : Int) (k : Nat) : Calls Tryz.prog 89 #[.pointer (some ⟨p, 0, none⟩), .agg #[.int .i64 i, .int .u64 (k : Int)]] w (ret (.bool (s.live i k)) w) := by
  have ha : ∀ W, Below w.heap.size w W → Calls Tryz.prog 136 #[.pointer (some ⟨p, 0, none⟩), .int .i64 i] W (ret (.tuple #[.agg (s.hat i), .bool (s.is_ i)]) W) := fun W hW => pat_any (h.step hW) hn i
  cases e : s.is_ i with
  | false =>
    have e2 : s.live i k = false := by
      refine Ar.live_no fun h => ?_
      unfold Ar.is_ at e
      simp at e
      have := e h.1
      omega
    rw [e2]
    refine pliveG_no w _ i k fun W hW => ?_
    have := ha W hW
    unfold Ar.hat at this
    rw [e] at this
    exact this
  | true =>
    have e0 := e
    unfold Ar.is_ at e0
    simp at e0
    obtain ⟨j, rfl⟩ := Int.eq_ofNat_of_zero_le e0.1
    have e2 : ((j : Int)).toNat = j := by omega
    have e3 : s.live (j : Int) k = ((s.at_ j : Int) == (k : Int)) := by
      unfold Ar.live
      rw [e2] at e0 ⊢
      by_cases q : s.at_ j = k
      · have h1 : (s.at_ j == k) = true := by simp [q]
        have h2 : ((s.at_ j : Int) == (k : Int)) = true := by simp [q]
        have h3 : (k ≠ 0) := fun e => e0.2 (by rw [q, e])
        rw [h1, h2]
        simp [h3]
      · have h1 : (s.at_ j == k) = false := by simp [q]
        have h2 : ((s.at_ j : Int) == (k : Int)) = false := by
          simp
          omega
        rw [h1, h2]
        simp
    rw [e3]
    refine pliveG_yes w _ _ _ k fun W hW => ?_
    have := ha W hW
    unfold Ar.hat at this
    rw [e, e2] at this
    exact this
/-- The landed arena is one. -/
theorem pArC : ArC PA 148 139 81 := by
  refine ⟨fun h hk hd => h.keep hk hd, fun h => h.old, ?_, ?_, ?_⟩
  · intro w p s F h hs hn hS
    obtain ⟨g, c, fd, fs, bf, hx, hr⟩ := h
    cases hw : s.which with
    | none =>
      have e1 : s.tk = s := by unfold Ar.tk; rw [hw]
      have e2 : s.tkH = #[.int .i64 0, .int .u64 0] := by unfold Ar.tkH; rw [hw]
      have e3 : s.tkE = 9 := by unfold Ar.tkE; rw [hw]
      rw [e1, e2, e3]
      refine (ptakeX_full hx (Ar.count_full hw)).mono ?_
      rintro e w' ⟨rfl, hb⟩
      exact ⟨rfl, F, ⟨g, c, fd, fs, bf, hx.step hb, hr⟩, Ext.of_below hb⟩
    | some i =>
      have e1 : s.tk = s.taken i := by unfold Ar.tk; rw [hw]
      have e2 : s.tkH = #[.int .i64 (i : Int), .int .u64 ((s.serial : Int) + 1)] := by unfold Ar.tkH; rw [hw]
      have e3 : s.tkE = 0 := by unfold Ar.tkE; rw [hw]
      have hlt := Ar.which_lt hs hw
      have hcl := Ar.count_lt hs hw
      have key : ∃ fd2 fs2, (∀ W, PX W p g s.has.length c fd fs s.count s.serial s.at_ bf F → Calls Tryz.prog 174 #[.pointer (some ⟨p, 0, none⟩)] W fun e w' => e = .returned (.int .i64 (i : Int)) ∧ PX w' p g s.has.length c fd2 fs2 s.count s.serial s.at_ bf F ∧ Kept (fun k => k = p) W w') ∧ PRep (s.taken i) fd2 fs2 (fun k => if k = i then -1 else bf k) := by
        rcases hr.cases with ⟨j, t, hf, hfd, hk⟩ | ⟨hf, hfd⟩
        · have := PRep.which_last hf
          rw [hw] at this
          injection this with this
          subst this
          exact ⟨bf i, fs, fun W hW => punlink_free hW hn i hlt hfd, hr.taken_last hs hf hk⟩
        · have hq := hr.which_fs hf
          rw [hw] at hq
          by_cases hl : fs < s.has.length
          · rw [if_pos hl] at hq
            injection hq with hq
            subst hq
            exact ⟨-1, i + 1, fun W hW => punlink_fresh hW hn hlt hfd, hr.taken_fresh hs hf hl⟩
          · rw [if_neg hl] at hq
            cases hq
      obtain ⟨fd2, fs2, hU, hr2⟩ := key
      rw [e1, e2, e3]
      refine (ptakeX_any hx hn hcl hS i hlt fd2 fs2 hU).mono ?_
      rintro e w' ⟨rfl, hx2, hk⟩
      refine ⟨rfl, F, ⟨g, c, fd2, fs2, _, ?_, hr2⟩, ⟨fun k hk => .inl hk, hk.mono fun k _ e => ?_⟩⟩
      · have e4 : (s.taken i).has.length = s.has.length := List.length_set
        have e5 : (s.taken i).at_ = fun k => if k = i then s.serial + 1 else s.at_ k := funext fun k => Ar.at_taken hs hw k
        have e6 : (s.taken i).serial = s.serial + 1 := rfl
        rw [e4, e5, e6, Ar.count_taken hs hw]
        exact hx2
      · rcases e with rfl | rfl
        · exact hx.mp
        · exact hx.mg
  · intro w p s F h hs hn i k
    have h0 := h
    obtain ⟨g, c, fd, fs, bf, hx, hr⟩ := h
    have hL : ∀ W, PX W p g s.has.length c fd fs s.count s.serial s.at_ bf F → Calls Tryz.prog 89 #[.pointer (some ⟨p, 0, none⟩), .agg #[.int .i64 i, .int .u64 (k : Int)]] W (ret (.bool (s.live i k)) W) := fun W hW => plive_any ⟨g, c, fd, fs, bf, hW, hr⟩ hn i k
    cases hl : s.live i k with
    | false =>
      rw [hl] at hL
      have e1 : s.fr i k = s := by unfold Ar.fr; rw [hl]; rfl
      have e2 : s.frE i k = 14 := by unfold Ar.frE; rw [hl]; rfl
      rw [e1, e2]
      refine (pfreeX_no hx i k hL).mono ?_
      rintro e w' ⟨rfl, hb⟩
      exact ⟨rfl, F, h0.step hb, Ext.of_below hb⟩
    | true =>
      rw [hl] at hL
      have e1 : s.fr i k = s.gone i.toNat := by unfold Ar.fr; rw [if_pos hl]
      have e2 : s.frE i k = 0 := by unfold Ar.frE; rw [if_pos hl]
      rw [e1, e2]
      obtain ⟨h1, h2, h3⟩ := Ar.live_iff.1 hl
      obtain ⟨j, rfl⟩ := Int.eq_ofNat_of_zero_le h1
      have e3 : ((j : Int)).toNat = j := by omega
      rw [e3] at h3 ⊢
      have hj0 : s.at_ j ≠ 0 := by omega
      have hlt : j < s.has.length := by
        rcases Nat.lt_or_ge j s.has.length with q | q
        · exact q
        · exact absurd (Ar.at_out q) hj0
      have hc := Ar.count_gone hj0
      refine (pfreeX_any hx hn (by omega) s.count_le j k hlt hL).mono ?_
      rintro e w' ⟨rfl, hx2, hk⟩
      refine ⟨rfl, F, ⟨g, c, _, fs, _, ?_, hr.gone hs hj0⟩, ⟨fun k hk => .inl hk, hk.mono fun k _ e => ?_⟩⟩
      · have e4 : (s.gone j).has.length = s.has.length := List.length_set
        have e5 : (s.gone j).at_ = fun k => if k = j then 0 else s.at_ k := funext fun k => Ar.at_gone hj0 k
        have e6 : (s.gone j).serial = s.serial := rfl
        rw [e4, e5, e6, show (s.gone j).count = s.count - 1 by omega]
        exact hx2
      · rcases e with rfl | rfl
        · exact hx.mp
        · exact hx.mg
  · intro w p s F h hs hn
    obtain ⟨g, c, fd, fs, bf, hx, hr⟩ := h
    refine (pcopy_any hx hn).mono ?_
    rintro e w' ⟨b, g2, c2, rfl, hx2, h1, h2, hb⟩
    exact ⟨b, _, rfl, ⟨g2, c2, fd, fs, bf, hx2, hr⟩, fun k hk => .inr ⟨by rcases hk with rfl | rfl <;> assumption, hx2.old k hk⟩, hb⟩
theorem pcopy_new {w : World} {p : Nat} {s : Ar} {F : Nat → Prop} (hn : s.has.length ≤ 65536) (h : PA w p s F) : Calls Tryz.prog 81 #[.pointer (some ⟨p, 0, none⟩)] w fun e w' => ∃ b F', e = .returned (.pointer (some ⟨b, 0, none⟩)) ∧ PA w' b s F' ∧ (∀ k, F' k → w.heap.size ≤ k ∧ k < w'.heap.size) ∧ Below w.heap.size w w' := by
  obtain ⟨g, c, fd, fs, bf, hx, hr⟩ := h
  refine (pcopy_any hx hn).mono ?_
  rintro e w' ⟨b, g2, c2, rfl, hx2, h1, h2, hb⟩
  exact ⟨b, _, rfl, ⟨g2, c2, fd, fs, bf, hx2, hr⟩, fun k hk => ⟨by rcases hk with rfl | rfl <;> assumption, hx2.old k hk⟩, hb⟩
theorem pnew_st (w : World) (n : Nat) (h1 : 1 ≤ n) (h2 : n ≤ 65536) : Calls Tryz.prog 65 #[.int .i64 (n : Int)] w fun e w' => ∃ p F, e = .returned (.tuple #[.pointer (some ⟨p, 0, none⟩), .int .i64 0]) ∧ PA w' p (Ar.new n) F ∧ (∀ k, F k → w.heap.size ≤ k) ∧ Below w.heap.size w w' := by
  refine (pnew_any w n h1 h2).mono ?_
  rintro e w' ⟨p, g, rfl, hx, h3, h4, hb⟩
  refine ⟨p, fun k => k = p ∨ k = g, rfl, ⟨g, n, -1, 0, _, ?_, PRep.new n⟩, fun k hk => by rcases hk with rfl | rfl <;> assumption, hb⟩
  have e1 : (Ar.new n).has.length = n := List.length_replicate
  have e2 : (Ar.new n).count = 0 := by
    unfold Ar.count Ar.new
    simp [List.countP_replicate]
  have e3 : (Ar.new n).at_ = fun _ => 0 := funext fun k => by
    unfold Ar.at_ Ar.new
    rw [List.getElem?_replicate]
    split <;> rfl
  rw [e1, e2, e3]
  exact hx
end Go.Proofs.YtimcdnbfdkpffaaGreat
/- Stage 10: the landed slots in memory, as fields; the functions that only read. -/
namespace Go.Proofs.YtimcdnbfdkpffaaGreat
set_option maxRecDepth 100000
open Go.RowKit
theorem OwnC.keepAny {w w' : World} {base size : Nat} {e : TypeId} {A : Option Addr} {n c : Nat} {f : Nat → Value} (h : OwnC w base e size A n c f) (hw : ∀ g, A = some ⟨g, 0, none⟩ → w'.heap[g]? = w.heap[g]?) : OwnC w' base e size A n c f := by
  refine ⟨h.1, ?_⟩
  rcases h.2 with hh | ⟨g, cap, cur, hv, hg, hh, r⟩
  · exact .inl hh
  · injection hv with h1 h2 h3
    exact .inr ⟨g, cap, cur, by rw [h1, h3], hg, (hw g h1).trans hh, r⟩
theorem OwnC.ltA {w : World} {base size : Nat} {e : TypeId} {g n c : Nat} {f : Nat → Value} (h : OwnC w base e size (some ⟨g, 0, none⟩) n c f) : g < w.heap.size := by
  rcases h.2 with ⟨hh, _⟩ | ⟨g', cap, cur, hv, _, hh, _⟩
  · cases hh
  · injection hv with h1 _ _
    injection h1 with h1
    injection h1 with h1
    subst h1
    exact lt_heap hh
/-- Rows of two types lie apart. -/
theorem OwnC.apart {w : World} {base base' size size' : Nat} {e e' : TypeId} {g g' n n' c c' : Nat} {f f' : Nat → Value} (h : OwnC w base e size (some ⟨g, 0, none⟩) n c f) (h' : OwnC w base' e' size' (some ⟨g', 0, none⟩) n' c' f') (hte : e' ≠ e) : g' ≠ g := by
  rcases h'.2 with ⟨hh, _⟩ | ⟨g2, cap, cur, hv, _, hh, _⟩
  · cases hh
  · injection hv with h1 _ _
    injection h1 with h1
    injection h1 with h1
    subst h1
    exact h.ne hh hte
def lcell (fl : Nat → Int) (pv nx : Nat → Nat) (j : Nat) : Value := if j % 3 = 0 then .int .i64 (fl (j / 3)) else if j % 3 = 1 then .int .i64 (pv (j / 3) : Int) else .int .i64 (nx (j / 3) : Int)
theorem lcell_one (fl : Nat → Int) (pv nx : Nat → Nat) (j : Nat) : (lcell fl pv nx j).oneCell' = true := by
  unfold lcell
  split
  · rfl
  · split <;> rfl
theorem lcell_0 (fl : Nat → Int) (pv nx : Nat → Nat) (j : Nat) : lcell fl pv nx (j * 3) = .int .i64 (fl j) := by
  unfold lcell
  rw [if_pos (by omega), show j * 3 / 3 = j by omega]
theorem lcell_1 (fl : Nat → Int) (pv nx : Nat → Nat) (j : Nat) : lcell fl pv nx (j * 3 + 1) = .int .i64 (pv j : Int) := by
  unfold lcell
  rw [if_neg (by omega), if_pos (by omega), show (j * 3 + 1) / 3 = j by omega]
theorem lcell_2 (fl : Nat → Int) (pv nx : Nat → Nat) (j : Nat) : lcell fl pv nx (j * 3 + 2) = .int .i64 (nx j : Int) := by
  unfold lcell
  rw [if_neg (by omega), if_neg (by omega), show (j * 3 + 2) / 3 = j by omega]
/-- The walks that go on: none, or one, at a block, at a place. -/
def wkn : Option (Nat × Nat) → Nat
  | none => 0
  | some _ => 1
def wkf : Option (Nat × Nat) → Nat → Value
  | none, _ => .pointer none
  | some x, _ => .pointer (some ⟨x.1, 0, none⟩)
/-- The landed slots at a block, as fields. -/
structure SX (w : World) (p A cA B cB m n : Nat) (V : Option Addr) (cV : Nat) (fl : Nat → Int) (pv nx sz : Nat → Nat) (wk : Option (Nat × Nat)) (F : Nat → Prop) : Prop where
  blk : w.heap[p]? = some (.cells #[.slice (some ⟨A, 0, none⟩) (m + n) cA, .slice (some ⟨B, 0, none⟩) n cB, .slice V (wkn wk) cV] 194 (0, 0))
  rowA : OwnC w 0 196 3 (some ⟨A, 0, none⟩) (m + n) cA (lcell fl pv nx)
  rowB : OwnC w 0 3 1 (some ⟨B, 0, none⟩) n cB (fun k => .int .i64 (sz k : Int))
  rowV : OwnC w 0 241 1 V (wkn wk) cV (wkf wk)
  wlk : ∀ x, wk = some x → w.heap[x.1]? = some (.cells #[.int .i64 (x.2 : Int)] 243 (0, 0)) ∧ F x.1
  mp : F p
  mA : F A
  mB : F B
  mV : ∀ g, V = some ⟨g, 0, none⟩ → F g
  old : ∀ k, F k → k < w.heap.size
  pos : 0 < n
  mpos : 0 < m
section
variable {w w' : World} {p A cA B cB m n : Nat} {V : Option Addr} {cV : Nat} {fl : Nat → Int} {pv nx sz : Nat → Nat} {wk : Option (Nat × Nat)} {F : Nat → Prop}
theorem SX.keep {R : Nat → Prop} (h : SX w p A cA B cB m n V cV fl pv nx sz wk F) (hk : Kept R w w') (hd : ∀ k, F k → ¬ R k) : SX w' p A cA B cB m n V cV fl pv nx sz wk F :=
  have hb : ∀ k, F k → w'.heap[k]? = w.heap[k]? := fun k hF => hk.block k (h.old k hF) (hd k hF)
  ⟨(hb p h.mp).trans h.blk, h.rowA.block (hb A h.mA), h.rowB.block (hb B h.mB), h.rowV.keepAny fun g e => hb g (h.mV g e), fun x e => ⟨(hb _ (h.wlk x e).2).trans (h.wlk x e).1, (h.wlk x e).2⟩, h.mp, h.mA, h.mB, h.mV, fun k hF => Nat.lt_of_lt_of_le (h.old k hF) hk.size, h.pos, h.mpos⟩
theorem SX.step (h : SX w p A cA B cB m n V cV fl pv nx sz wk F) (hb : Below w.heap.size w w') : SX w' p A cA B cB m n V cV fl pv nx sz wk F :=
  h.keep (Kept.of_below hb fun _ => False) fun _ _ q => q
theorem SX.cA9 (h : SX w p A cA B cB m n V cV fl pv nx sz wk F) : m + n ≤ cA ∧ cA ≤ 9223372036854775807 := by
  have := h.rowA.cap
  have := h.rowA.cap_le
  unfold maxLen at this
  omega
theorem SX.cB9 (h : SX w p A cA B cB m n V cV fl pv nx sz wk F) : n ≤ cB ∧ cB ≤ 9223372036854775807 := by
  have := h.rowB.cap
  have := h.rowB.cap_le
  unfold maxLen at this
  omega
theorem SX.l0 (h : SX w p A cA B cB m n V cV fl pv nx sz wk F) {j : Nat} (hj : j < m + n) : w.cell? ⟨A, j * 3, none⟩ = some (.int .i64 (fl j)) := by
  obtain ⟨g', e, _, _, hc, _⟩ := h.rowA.lies (by omega)
  injection e with e
  injection e with e
  subst e
  rw [← lcell_0 fl pv nx j]
  exact hc _ (by omega)
theorem SX.l1 (h : SX w p A cA B cB m n V cV fl pv nx sz wk F) {j : Nat} (hj : j < m + n) : w.cell? ⟨A, j * 3 + 1, none⟩ = some (.int .i64 (pv j : Int)) := by
  obtain ⟨g', e, _, _, hc, _⟩ := h.rowA.lies (by omega)
  injection e with e
  injection e with e
  subst e
  rw [← lcell_1 fl pv nx j]
  exact hc _ (by omega)
theorem SX.l2 (h : SX w p A cA B cB m n V cV fl pv nx sz wk F) {j : Nat} (hj : j < m + n) : w.cell? ⟨A, j * 3 + 2, none⟩ = some (.int .i64 (nx j : Int)) := by
  obtain ⟨g', e, _, _, hc, _⟩ := h.rowA.lies (by omega)
  injection e with e
  injection e with e
  subst e
  rw [← lcell_2 fl pv nx j]
  exact hc _ (by omega)
theorem SX.fzA (h : SX w p A cA B cB m n V cV fl pv nx sz wk F) (k : Nat) : w.frozen? ⟨A, k, none⟩ = false := by
  obtain ⟨g', e, _, _, _, hf⟩ := h.rowA.lies (by have := h.pos; omega)
  injection e with e
  injection e with e
  subst e
  exact hf k
theorem SX.s0 (h : SX w p A cA B cB m n V cV fl pv nx sz wk F) {j : Nat} (hj : j < n) : w.cell? ⟨B, j, none⟩ = some (.int .i64 (sz j : Int)) := by
  obtain ⟨g', e, _, _, hc, _⟩ := h.rowB.lies (by omega)
  injection e with e
  injection e with e
  subst e
  exact hc _ (by omega)
theorem SX.fzB (h : SX w p A cA B cB m n V cV fl pv nx sz wk F) (k : Nat) : w.frozen? ⟨B, k, none⟩ = false := by
  obtain ⟨g', e, _, _, _, hf⟩ := h.rowB.lies h.pos
  injection e with e
  injection e with e
  subst e
  exact hf k
theorem SX.pA (h : SX w p A cA B cB m n V cV fl pv nx sz wk F) : p ≠ A := h.rowA.ne h.blk (by decide)
theorem SX.pB (h : SX w p A cA B cB m n V cV fl pv nx sz wk F) : p ≠ B := h.rowB.ne h.blk (by decide)
theorem SX.AB (h : SX w p A cA B cB m n V cV fl pv nx sz wk F) : A ≠ B := h.rowB.apart h.rowA (by decide)
theorem SX.AV (h : SX w p A cA B cB m n V cV fl pv nx sz wk F) {g : Nat} (e : V = some ⟨g, 0, none⟩) : A ≠ g := by
  subst e
  exact h.rowV.apart h.rowA (by decide)
theorem SX.BV (h : SX w p A cA B cB m n V cV fl pv nx sz wk F) {g : Nat} (e : V = some ⟨g, 0, none⟩) : B ≠ g := by
  subst e
  exact h.rowV.apart h.rowB (by decide)
theorem SX.wA (h : SX w p A cA B cB m n V cV fl pv nx sz wk F) {x : Nat × Nat} (e : wk = some x) : x.1 ≠ A := h.rowA.ne (h.wlk x e).1 (by decide)
theorem SX.wB (h : SX w p A cA B cB m n V cV fl pv nx sz wk F) {x : Nat × Nat} (e : wk = some x) : x.1 ≠ B := h.rowB.ne (h.wlk x e).1 (by decide)
theorem SX.wV (h : SX w p A cA B cB m n V cV fl pv nx sz wk F) {x : Nat × Nat} (e : wk = some x) {g : Nat} (eg : V = some ⟨g, 0, none⟩) : x.1 ≠ g := by
  subst eg
  exact h.rowV.ne (h.wlk x e).1 (by decide)
theorem SX.wp (h : SX w p A cA B cB m n V cV fl pv nx sz wk F) {x : Nat × Nat} (e : wk = some x) : x.1 ≠ p := fun q => by
  have h1 := (h.wlk x e).1
  rw [q, h.blk] at h1
  injection h1 with h1
  injection h1 with _ h1 _
  exact absurd h1 (by decide)
/-- Cells of the links turned. -/
theorem SX.setA (h : SX w p A cA B cB m n V cV fl pv nx sz wk F) {fl' : Nat → Int} {pv' nx' : Nat → Nat} (hb : ∀ k, k ≠ A → w'.heap[k]? = w.heap[k]?) (hs : w.heap.size ≤ w'.heap.size) (hr : OwnC w' 0 196 3 (some ⟨A, 0, none⟩) (m + n) cA (lcell fl' pv' nx')) : SX w' p A cA B cB m n V cV fl' pv' nx' sz wk F :=
  ⟨(hb p h.pA).trans h.blk, hr, h.rowB.block (hb B h.AB.symm), h.rowV.keepAny fun g e => hb g (h.AV e).symm, fun x e => ⟨(hb _ (h.wA e)).trans (h.wlk x e).1, (h.wlk x e).2⟩, h.mp, h.mA, h.mB, h.mV, fun k hF => Nat.lt_of_lt_of_le (h.old k hF) hs, h.pos, h.mpos⟩
theorem SX.setN (h : SX w p A cA B cB m n V cV fl pv nx sz wk F) (k v : Nat) : SX (w.setCell ⟨A, k * 3 + 2, none⟩ (.int .i64 (v : Int))) p A cA B cB m n V cV fl pv (updN nx k v) sz wk F := by
  refine h.setA (fun j hj => Below.heap_setCell w ⟨A, k * 3 + 2, none⟩ _ j hj) (by simp) ((h.rowA.set_ (k * 3 + 2) _).same fun j _ => ?_)
  unfold updV lcell updN
  by_cases e : j = k * 3 + 2
  · subst e
    rw [if_pos rfl, if_neg (by omega), if_neg (by omega), if_pos (by omega)]
  · rw [if_neg e]
    by_cases e1 : j % 3 = 0
    · rw [if_pos e1, if_pos e1]
    · rw [if_neg e1, if_neg e1]
      by_cases e2 : j % 3 = 1
      · rw [if_pos e2, if_pos e2]
      · rw [if_neg e2, if_neg e2, if_neg (by omega)]
theorem SX.setP (h : SX w p A cA B cB m n V cV fl pv nx sz wk F) (k v : Nat) : SX (w.setCell ⟨A, k * 3 + 1, none⟩ (.int .i64 (v : Int))) p A cA B cB m n V cV fl (updN pv k v) nx sz wk F := by
  refine h.setA (fun j hj => Below.heap_setCell w ⟨A, k * 3 + 1, none⟩ _ j hj) (by simp) ((h.rowA.set_ (k * 3 + 1) _).same fun j _ => ?_)
  unfold updV lcell updN
  by_cases e : j = k * 3 + 1
  · subst e
    rw [if_pos rfl, if_neg (by omega), if_pos (by omega), if_pos (by omega)]
  · rw [if_neg e]
    by_cases e1 : j % 3 = 0
    · rw [if_pos e1, if_pos e1]
    · rw [if_neg e1, if_neg e1]
      by_cases e2 : j % 3 = 1
      · rw [if_pos e2, if_pos e2, if_neg (by omega)]
      · rw [if_neg e2, if_neg e2]
theorem SX.put (h : SX w p A cA B cB m n V cV fl pv nx sz wk F) (k : Nat) (a : Int) (b c : Nat) : SX (w.setCells A (k * 3) [.int .i64 a, .int .i64 (b : Int), .int .i64 (c : Int)]) p A cA B cB m n V cV (updI fl k a) (updN pv k b) (updN nx k c) sz wk F := by
  refine h.setA (fun j hj => other_setCells hj _ _ _) (below_setCells (b := A) (Nat.zero_le _) _ _ w (Below.refl 0 w)).size ((((h.rowA.set_ (k * 3) (.int .i64 a)).set_ (k * 3 + 1) (.int .i64 (b : Int))).set_ (k * 3 + 1 + 1) (.int .i64 (c : Int))).same fun j _ => ?_)
  unfold updV lcell updN updI
  by_cases e2 : j = k * 3 + 1 + 1
  · subst e2
    rw [if_pos rfl, if_neg (by omega), if_neg (by omega), if_pos (by omega)]
  · rw [if_neg e2]
    by_cases e1 : j = k * 3 + 1
    · subst e1
      rw [if_pos rfl, if_neg (by omega), if_pos (by omega), if_pos (by omega)]
    · rw [if_neg e1]
      by_cases e0 : j = k * 3
      · subst e0
        rw [if_pos rfl, if_pos (by omega), if_pos (by omega)]
      · rw [if_neg e0]
        by_cases q0 : j % 3 = 0
        · rw [if_pos q0, if_pos q0, if_neg (by omega)]
        · rw [if_neg q0, if_neg q0]
          by_cases q1 : j % 3 = 1
          · rw [if_pos q1, if_pos q1, if_neg (by omega)]
          · rw [if_neg q1, if_neg q1, if_neg (by omega)]
theorem SX.there (h : SX w p A cA B cB m n V cV fl pv nx sz wk F) {j : Nat} (hj : j < m + n) : w.there A (j * 3) 3 := fun k hk => by
  refine ⟨?_, h.fzA _⟩
  rcases (show k = 0 ∨ k = 1 ∨ k = 2 by omega) with rfl | rfl | rfl
  · rw [Nat.add_zero, h.l0 hj]
    rfl
  · rw [h.l1 hj]
    rfl
  · rw [h.l2 hj]
    rfl
theorem SX.rng (h : SX w p A cA B cB m n V cV fl pv nx sz wk F) {j : Nat} (hj : j < m + n) : w.rangeAt A (j * 3) [.int .i64 (fl j), .int .i64 (pv j : Int), .int .i64 (nx j : Int)] := fun k v hv => by
  match k, hv with
  | 0, hv => rw [← hv]; exact h.l0 hj
  | 1, hv => rw [← hv]; exact h.l1 hj
  | 2, hv => rw [← hv]; exact h.l2 hj
theorem SX.setS (h : SX w p A cA B cB m n V cV fl pv nx sz wk F) (k v : Nat) : SX (w.setCell ⟨B, k, none⟩ (.int .i64 (v : Int))) p A cA B cB m n V cV fl pv nx (updN sz k v) wk F := by
  have hb : ∀ j, j ≠ B → (w.setCell ⟨B, k, none⟩ (.int .i64 (v : Int))).heap[j]? = w.heap[j]? := fun j hj => Below.heap_setCell w ⟨B, k, none⟩ _ j hj
  refine ⟨(hb p h.pB).trans h.blk, h.rowA.block (hb A h.AB), (h.rowB.set_ k _).same fun j _ => ?_, h.rowV.keepAny fun g e => hb g (h.BV e).symm, fun x e => ⟨(hb _ (h.wB e)).trans (h.wlk x e).1, (h.wlk x e).2⟩, h.mp, h.mA, h.mB, h.mV, fun j hF => by simpa using h.old j hF, h.pos, h.mpos⟩
  unfold updV updN
  by_cases e : j = k
  · rw [if_pos e, if_pos e]
  · rw [if_neg e, if_neg e]
theorem SX.setW {x : Nat × Nat} (h : SX w p A cA B cB m n V cV fl pv nx sz (some x) F) (v : Nat) : SX (w.setCell ⟨x.1, 0, none⟩ (.int .i64 (v : Int))) p A cA B cB m n V cV fl pv nx sz (some (x.1, v)) F := by
  have hb : ∀ j, j ≠ x.1 → (w.setCell ⟨x.1, 0, none⟩ (.int .i64 (v : Int))).heap[j]? = w.heap[j]? := fun j hj => Below.heap_setCell w ⟨x.1, 0, none⟩ _ j hj
  refine ⟨(hb p (h.wp rfl).symm).trans h.blk, h.rowA.block (hb A (h.wA rfl).symm), h.rowB.block (hb B (h.wB rfl).symm), h.rowV.keepAny fun g e => hb g (h.wV rfl e).symm, fun y e => ?_, h.mp, h.mA, h.mB, h.mV, fun j hF => by simpa using h.old j hF, h.pos, h.mpos⟩
  injection e with e
  subst e
  exact ⟨blk_set (h.wlk x rfl).1 0 _, (h.wlk x rfl).2⟩
theorem SX.wcell {x : Nat × Nat} (h : SX w p A cA B cB m n V cV fl pv nx sz (some x) F) : w.cell? ⟨x.1, 0, none⟩ = some (.int .i64 (x.2 : Int)) ∧ w.frozen? ⟨x.1, 0, none⟩ = false := ⟨blk_cell (h.wlk x rfl).1 0, blk_free (h.wlk x rfl).1 0⟩
end
end Go.Proofs.YtimcdnbfdkpffaaGreat
/- Stage 10: the landed slots: the functions that only read. -/
namespace Go.Proofs.YtimcdnbfdkpffaaGreat
set_option maxRecDepth 100000
open Go.RowKit Go.Shelf
attribute [local go_sem] Oper.semAt_some
theorem phasL_c (w : World) (p : Nat) (B : Option Addr) (n c : Nat) (x1 : w.cell? ⟨p, 1, none⟩ = some (.slice B n c)) (i : Int) : Calls Tryz.prog 162 #[.pointer (some ⟨p, 0, none⟩), .int .i64 i] w (ret (.bool (decide (0 ≤ i) && decide (i < (n : Int)))) w) := by
  rcases Int.lt_or_le i 0 with h0 | h0
  · have e : (decide (0 ≤ i) && decide (i < (n : Int))) = false := by simp; omega
    rw [e]
    clear e
    go_enter Tryz.func162, Tryz.ntmps162
    go_wp2_with fail
    go_ret
    exact ⟨rfl, Below.refl _ _⟩
  · rcases Int.lt_or_le i (n : Int) with h1 | h1
    · have e : (decide (0 ≤ i) && decide (i < (n : Int))) = true := by simp; omega
      rw [e]
      clear e
      go_enter Tryz.func162, Tryz.ntmps162
      go_wp2_with fail
      go_ret
      exact ⟨rfl, Below.refl _ _⟩
    · have e : (decide (0 ≤ i) && decide (i < (n : Int))) = false := by simp; omega
      have h1' : ¬ i < (n : Int) := by omega
      rw [e]
      clear e
      go_enter Tryz.func162, Tryz.ntmps162
      go_wp2_with fail
      go_ret
      exact ⟨rfl, Below.refl _ _⟩
theorem pown_c (w : World) (p : Nat) (A B : Option Addr) (m n cA cB : Nat) (x0 : w.cell? ⟨p, 0, none⟩ = some (.slice A (m + n) cA)) (x1 : w.cell? ⟨p, 1, none⟩ = some (.slice B n cB)) (hm : m ≤ 65536) (_hn : n ≤ 65536) (i : Nat) (hi : i ≤ 65536) :
    Calls Tryz.prog 108 #[.pointer (some ⟨p, 0, none⟩), .int .i64 (i : Int)] w (ret (.int .i64 ((m + i : Nat) : Int)) w) := by
  have z1 : IntKind.i64.wrap (((m + n : Nat) : Int) - (n : Int)) = (m : Int) := by rw [IntKind.wrap_i64]; omega
  have z2 : IntKind.i64.wrap ((m : Int) + (i : Int)) = ((m + i : Nat) : Int) := by rw [IntKind.wrap_i64]; omega
  have y0 : ∀ W : Stay w, W.w.cell? ⟨p, 0, none⟩ = some (.slice A (m + n) cA) := fun W => Stay.cell x0 W
  have y1 : ∀ W : Stay w, W.w.cell? ⟨p, 1, none⟩ = some (.slice B n cB) := fun W => Stay.cell x1 W
  clear x0 x1
  obtain ⟨N, hN⟩ : ∃ N, N = m + n := ⟨_, rfl⟩
  rw [← hN] at z1 y0
  clear hN
  go_enter Tryz.func108, Tryz.ntmps108
  go_upto_region 1 with fail
  refine wp_region_stay (by kernel_rfl) (by kernel_rfl) ?_
  repeat (go_big_quiet_step (fail))
  refine wpQuiet_nil ?_
  intro w' hw'
  obtain ⟨W, rfl⟩ := hw'
  go_wp2_with fail
  go_ret
  exact ⟨rfl, W.below⟩
theorem phasC_c (w : World) (p m : Nat) (ho : ∀ W, Below w.heap.size w W → Calls Tryz.prog 108 #[.pointer (some ⟨p, 0, none⟩), .int .i64 0] W (ret (.int .i64 (m : Int)) W)) (i : Int) :
    Calls Tryz.prog 137 #[.pointer (some ⟨p, 0, none⟩), .int .i64 i] w (ret (.bool (decide (0 ≤ i) && decide (i < (m : Int)))) w) := by
  have HO := Lib.hid (ho w (Below.refl _ _))
  clear ho
  rcases Int.lt_or_le i 0 with h0 | h0
  · have e : (decide (0 ≤ i) && decide (i < (m : Int))) = false := by simp; omega
    rw [e]
    clear e
    go_enter Tryz.func137, Tryz.ntmps137
    go_wp2_with fail
    go_ret
    exact ⟨rfl, Below.refl _ _⟩
  · rcases Int.lt_or_le i (m : Int) with h1 | h1
    · have e : (decide (0 ≤ i) && decide (i < (m : Int))) = true := by simp; omega
      rw [e]
      clear e
      go_enter Tryz.func137, Tryz.ntmps137
      go_wp2_with (first
        | (go_at_call 108
           refine HO.out.mono ?_
           rintro e u ⟨rfl, hb⟩
           have HB := Lib.hid hb
           clear hb))
      go_ret
      exact ⟨rfl, HB.out⟩
    · have e : (decide (0 ≤ i) && decide (i < (m : Int))) = false := by simp; omega
      have h1' : ¬ i < (m : Int) := by omega
      rw [e]
      clear e
      go_enter Tryz.func137, Tryz.ntmps137
      go_wp2_with (first
        | (go_at_call 108
           refine HO.out.mono ?_
           rintro e u ⟨rfl, hb⟩
           have HB := Lib.hid hb
           clear hb))
      go_ret
      exact ⟨(by rw [show decide (i < (m : Int)) = false from by simpa using h1]; rfl), HB.out⟩
theorem pmade_c (w : World) (pa : Option Addr) (b : Bool) (hl : Calls Tryz.prog 162 #[.pointer pa, .int .i64 0] w (ret (.bool b) w)) : Calls Tryz.prog 127 #[.pointer pa] w (ret (.bool b) w) := by
  have HO := Lib.hid hl
  clear hl
  go_enter Tryz.func127, Tryz.ntmps127
  go_wp2_with (first
    | (go_at_call 162
       refine HO.out.mono ?_
       rintro e u ⟨rfl, hb⟩
       have HB := Lib.hid hb
       clear hb))
  go_ret
  exact ⟨rfl, HB.out⟩
theorem plen_no (w : World) (pa : Option Addr) (i : Int) (hl : Calls Tryz.prog 162 #[.pointer pa, .int .i64 i] w (ret (.bool false) w)) : Calls Tryz.prog 167 #[.pointer pa, .int .i64 i] w (ret (.int .i64 0) w) := by
  have HO := Lib.hid hl
  clear hl
  go_enter Tryz.func167, Tryz.ntmps167
  go_wp2_with (first
    | (go_at_call 162
       refine HO.out.mono ?_
       rintro e u ⟨rfl, hb⟩
       have HB := Lib.hid hb
       clear hb))
  go_ret
  exact ⟨rfl, HB.out⟩
section
variable {w : World} {p A cA B cB m n : Nat} {V : Option Addr} {cV : Nat} {fl : Nat → Int} {pv nx sz : Nat → Nat} {wk : Option (Nat × Nat)} {F : Nat → Prop}
theorem SX.hasL (h : SX w p A cA B cB m n V cV fl pv nx sz wk F) (i : Int) : Calls Tryz.prog 162 #[.pointer (some ⟨p, 0, none⟩), .int .i64 i] w (ret (.bool (decide (0 ≤ i) && decide (i < (n : Int)))) w) := phasL_c w p _ n cB (blk_cell h.blk 1) i
theorem SX.own (h : SX w p A cA B cB m n V cV fl pv nx sz wk F) (hm : m ≤ 65536) (hn : n ≤ 4096) (i : Nat) (hi : i ≤ 4096) : Calls Tryz.prog 108 #[.pointer (some ⟨p, 0, none⟩), .int .i64 (i : Int)] w (ret (.int .i64 ((m + i : Nat) : Int)) w) :=
  pown_c w p _ _ m n cA cB (blk_cell h.blk 0) (blk_cell h.blk 1) hm (by omega) i (by omega)
theorem SX.hasC (h : SX w p A cA B cB m n V cV fl pv nx sz wk F) (hm : m ≤ 65536) (hn : n ≤ 4096) (i : Int) : Calls Tryz.prog 137 #[.pointer (some ⟨p, 0, none⟩), .int .i64 i] w (ret (.bool (decide (0 ≤ i) && decide (i < (m : Int)))) w) :=
  phasC_c w p m (fun _ hW => (h.step hW).own hm hn 0 (by omega)) i
theorem SX.made (h : SX w p A cA B cB m n V cV fl pv nx sz wk F) : Calls Tryz.prog 127 #[.pointer (some ⟨p, 0, none⟩)] w (ret (.bool true) w) :=
  pmade_c w _ true (by
    have := h.hasL 0
    have hp := h.pos
    have e : (decide ((0 : Int) ≤ 0) && decide ((0 : Int) < (n : Int))) = true := by simp; omega
    rwa [e] at this)
theorem SX.len (h : SX w p A cA B cB m n V cV fl pv nx sz wk F) (i : Nat) (hi : i < n) : Calls Tryz.prog 167 #[.pointer (some ⟨p, 0, none⟩), .int .i64 (i : Int)] w (ret (.int .i64 (sz i : Int)) w) := by
  have HL : Hid (Calls Tryz.prog 162 #[.pointer (some ⟨p, 0, none⟩), .int .i64 (i : Int)] w (ret (.bool true) w)) := Lib.hid (by
    have := h.hasL i
    have e : (decide ((0 : Int) ≤ (i : Int)) && decide ((i : Int) < (n : Int))) = true := by simp; omega
    rwa [e] at this)
  have HX := Lib.hid h
  have i1 : (i : Int) < (n : Int) := by omega
  have i0 : (0 : Int) ≤ (i : Int) := by omega
  have cB9 := h.cB9
  clear h
  go_enter Tryz.func167, Tryz.ntmps167
  go_wp2_with (first
    | (go_at_call 162
       refine HL.out.mono ?_
       rintro e u ⟨rfl, hb⟩
       have HB := Lib.hid hb
       have HX2 := Lib.hid (HX.out.step hb)
       have x1 : u.cell? ⟨p, 1, none⟩ = some (.slice (some ⟨B, 0, none⟩) n cB) := blk_cell HX2.out.blk 1
       have xs : u.cell? ⟨B, i, none⟩ = some (.int .i64 (sz i : Int)) := HX2.out.s0 hi
       clear hb))
  go_ret
  exact ⟨rfl, HB.out⟩
end
end Go.Proofs.YtimcdnbfdkpffaaGreat
