import Derived.Test.YtimcdnbfdkpffaaGreatGm18
import Derived.Test.YtimcdnbfdkpffaaGreatGm3
import Derived.Test.YtimcdnbfdkpffaaGreatGm2
/- Stage 11: the landed wheel's calls, by what they stand for; what is not there. -/
namespace Go.Proofs.YtimcdnbfdkpffaaGreat
set_option maxRecDepth 100000
open Go.RowKit Go.Shelf
/-- The landed wheel at p stands for s. -/
def PW (w : World) (p : Nat) (s : Wh) (F : Nat → Prop) : Prop := ∃ ap z g c S ta tw tt, WX w p ap z g c s.a S s.now s.tn ta tw tt F ∧ WRep s S ta tw tt
theorem over_eq (s : Wh) (at_ : Nat) : s.over at_ = ovr s.now at_ := rfl
theorem nxt_eq (s : Wh) (at_ : Nat) : s.nxt at_ = max at_ (s.now + 1) := by
  unfold Wh.nxt
  split <;> omega
theorem ovr_now {now at_ : Nat} (h : ovr now at_ = false) (hn : now < 18446744073709551616) : now < 18446744073709551615 := by
  unfold ovr at h
  simp at h
  omega
section
variable {w w' : World} {p : Nat} {s : Wh} {F : Nat → Prop} {m : Nat}
theorem PW.keep {R : Nat → Prop} (h : PW w p s F) (hk : Kept R w w') (hd : ∀ k, F k → ¬ R k) : PW w' p s F := by
  obtain ⟨ap, z, g, c, S, ta, tw, tt, hx, hr⟩ := h
  exact ⟨ap, z, g, c, S, ta, tw, tt, hx.keep hk hd, hr⟩
theorem PW.old (h : PW w p s F) : ∀ k, F k → k < w.heap.size := by
  obtain ⟨ap, z, g, c, S, ta, tw, tt, hx, hr⟩ := h
  exact hx.old
theorem pw_arm (h : PW w p s F) (hs : s.Fit m) (at_ what : Nat) (ha : at_ < 18446744073709551616) : Calls Tryz.prog 97 #[.pointer (some ⟨p, 0, none⟩), .int .u64 (at_ : Int), .int .u64 (what : Int)] w fun e w' => e = .returned (.tuple #[.agg (s.armH at_), .int .i64 (s.armE at_)]) ∧ ∃ F', PW w' p (s.arm at_ what) F' ∧ Ext F F' w w' := by
  obtain ⟨ap, z, g, c, S, ta, tw, tt, hx, hr⟩ := h
  have hser := hs.ser
  have htn := hs.tn
  have hm := hs.m
  cases ho : ovr s.now at_ with
  | true =>
    have ho' : s.over at_ = true := ho
    have e1 : s.armE at_ = 15 := if_pos ho'
    have e2 : s.armH at_ = #[.int .i64 0, .int .u64 0] := if_pos ho'
    have e3 : s.arm at_ what = s := if_pos ho'
    rw [e1, e2, e3]
    refine (parmX_over hx at_ what ha ho).mono ?_
    rintro e w' ⟨rfl, F', hx', he⟩
    exact ⟨rfl, F', ⟨ap, z, g, c, S, ta, tw, tt, hx', hr⟩, he⟩
  | false =>
    have ho' : ¬ s.over at_ = true := by rw [over_eq, ho]; decide
    cases hw : s.a.which with
    | none =>
      have e1 : s.armE at_ = 9 := by unfold Wh.armE; rw [if_neg ho', hw]
      have e2 : s.armH at_ = #[.int .i64 0, .int .u64 0] := by unfold Wh.armH; rw [if_neg ho', hw]
      have e3 : s.arm at_ what = s := by unfold Wh.arm; rw [if_neg ho', hw]
      rw [e1, e2, e3]
      refine (parmX_full hx hs.ok.a (by omega) at_ what ha ho hw).mono ?_
      rintro e w' ⟨rfl, F', hx', he⟩
      exact ⟨rfl, F', ⟨ap, z, g, c, S, ta, tw, tt, hx', hr⟩, he⟩
    | some i =>
      have e1 : s.armE at_ = 0 := by unfold Wh.armE; rw [if_neg ho', hw]
      have e2 : s.armH at_ = #[.int .i64 (i : Int), .int .u64 ((s.a.serial : Int) + 1)] := by unfold Wh.armH; rw [if_neg ho', hw]
      have e3 : s.arm at_ what = ⟨s.a.taken i, s.l ++ [⟨i, s.a.serial + 1, s.nxt at_, what⟩], s.now, s.tn + 1⟩ := by unfold Wh.arm; rw [if_neg ho', hw]
      have hr' := hr.arm (what := what) hs.ok ha (by rw [over_eq]; exact ho) hw
      rw [e1, e2]
      refine (parmX_ok hx hs.ok.a (hr.lie.fit hs.n) (by omega) (by omega) (ovr_now ho hs.ok.now) at_ what ha ho i hw).mono ?_
      rintro e w' ⟨rfl, F', hx', he⟩
      rw [← nxt_eq] at hx'
      refine ⟨rfl, F', ⟨ap, z, g, c, _, _, _, _, ?_, hr'⟩, he⟩
      rw [e3]
      exact hx'
theorem pw_again (h : PW w p s F) (hs : s.Fit m) (hi : Int) (k : Nat) (at_ : Nat) (ha : at_ < 18446744073709551616) : Calls Tryz.prog 59 #[.pointer (some ⟨p, 0, none⟩), .agg #[.int .i64 hi, .int .u64 (k : Int)], .int .u64 (at_ : Int)] w fun e w' => e = .returned (.int .i64 (s.againE hi k at_)) ∧ ∃ F', PW w' p (s.again hi k at_) F' ∧ Ext F F' w w' := by
  obtain ⟨ap, z, g, c, S, ta, tw, tt, hx, hr⟩ := h
  have htn := hs.tn
  have hm := hs.m
  cases hl : s.a.live hi k with
  | false =>
    have hf := (Wh.not_live hs.ok hl).1
    have e1 : s.againE hi k at_ = 14 := by unfold Wh.againE; rw [hl]; rfl
    have e3 : s.again hi k at_ = s := by unfold Wh.again; rw [hf]
    rw [e1, e3]
    refine (pagainX_no hx hi k hl at_).mono ?_
    rintro e w' ⟨rfl, F', hx', he⟩
    exact ⟨rfl, F', ⟨ap, z, g, c, S, ta, tw, tt, hx', hr⟩, he⟩
  | true =>
    obtain ⟨t, ht, h1, h2, hf⟩ := Wh.live_ent hs.ok hl
    cases ho : ovr s.now at_ with
    | true =>
      have ho' : s.over at_ = true := ho
      have e1 : s.againE hi k at_ = 15 := by unfold Wh.againE; rw [if_pos hl, if_pos ho']
      have e3 : s.again hi k at_ = s := by unfold Wh.again; rw [hf]; exact if_pos ho'
      rw [e1, e3]
      refine (pagainX_over hx hi k hl at_ ha ho).mono ?_
      rintro e w' ⟨rfl, F', hx', he⟩
      exact ⟨rfl, F', ⟨ap, z, g, c, S, ta, tw, tt, hx', hr⟩, he⟩
    | false =>
      have ho' : ¬ s.over at_ = true := by rw [over_eq, ho]; decide
      have e1 : s.againE hi k at_ = 0 := by unfold Wh.againE; rw [if_pos hl, if_neg ho']
      subst h1
      have hin : t.i < s.a.has.length := by
        rcases Nat.lt_or_ge t.i s.a.has.length with q | q
        · exact q
        · obtain ⟨q1, q2⟩ := hs.ok.ent t ht
          rw [Ar.at_out q] at q1
          omega
      have hr' := hr.again hs.ok ha (by rw [over_eq]; exact ho) hl
      have e3 : (s.again (t.i : Int) k at_).a = s.a ∧ (s.again (t.i : Int) k at_).now = s.now ∧ (s.again (t.i : Int) k at_).tn = s.tn + 1 := by
        unfold Wh.again
        rw [hf]
        dsimp only
        rw [if_neg ho']
        exact ⟨rfl, rfl, rfl⟩
      rw [e1]
      refine (pagainX_ok hx (hr.lie.fit hs.n) (by omega) (ovr_now ho hs.ok.now) t.i k hin hl at_ ha ho).mono ?_
      rintro e w' ⟨rfl, F', hx', he⟩
      rw [← nxt_eq] at hx'
      refine ⟨rfl, F', ⟨ap, z, g, c, _, _, _, _, ?_, hr'⟩, he⟩
      rw [e3.1, e3.2.1, e3.2.2]
      exact hx'
theorem pw_cancel (h : PW w p s F) (hs : s.Fit m) (hi : Int) (k : Nat) : Calls Tryz.prog 44 #[.pointer (some ⟨p, 0, none⟩), .agg #[.int .i64 hi, .int .u64 (k : Int)]] w fun e w' => e = .returned (.int .i64 (s.cancelE hi k)) ∧ ∃ F', PW w' p (s.cancel hi k) F' ∧ Ext F F' w w' := by
  obtain ⟨ap, z, g, c, S, ta, tw, tt, hx, hr⟩ := h
  cases hl : s.a.live hi k with
  | false =>
    have e1 : s.cancelE hi k = 14 := by unfold Wh.cancelE; rw [hl]; rfl
    have e3 : s.cancel hi k = s := by unfold Wh.cancel; rw [hl]; rfl
    rw [e1, e3]
    refine (pcancelX_no hx hi k hl).mono ?_
    rintro e w' ⟨rfl, F', hx', he⟩
    exact ⟨rfl, F', ⟨ap, z, g, c, S, ta, tw, tt, hx', hr⟩, he⟩
  | true =>
    have e1 : s.cancelE hi k = 0 := if_pos hl
    obtain ⟨t, ht, h1, h2, hf⟩ := Wh.live_ent hs.ok hl
    subst h1
    have e3 : s.cancel (t.i : Int) k = ⟨s.a.gone t.i, Wh.drop s.l (t.i : Int) k, s.now, s.tn⟩ := by
      unfold Wh.cancel
      rw [if_pos hl]
      rfl
    rw [e1]
    refine (pcancelX_ok hx hs.ok.a (hr.lie.fit hs.n) t.i k hl).mono ?_
    rintro e w' ⟨rfl, F', hx', he⟩
    have hr' := hr.cancel (ta' := updN ta t.i 0) (tw' := updN tw t.i 0) (tt' := updN tt t.i 0) hs.ok hl (fun j hj => updN_ne hj) (fun j hj => updN_ne hj) (fun j hj => updN_ne hj)
    refine ⟨rfl, F', ⟨ap, z, g, c, _, _, _, _, ?_, hr'⟩, he⟩
    rw [e3]
    exact hx'
theorem pw_due (h : PW w p s F) (hs : s.Fit m) (hi : Int) (k : Nat) : Calls Tryz.prog 58 #[.pointer (some ⟨p, 0, none⟩), .agg #[.int .i64 hi, .int .u64 (k : Int)]] w (ret (.tuple (s.due hi k)) w) := by
  obtain ⟨ap, z, g, c, S, ta, tw, tt, hx, hr⟩ := h
  cases hl : s.a.live hi k with
  | false =>
    have hf := (Wh.not_live hs.ok hl).1
    have e1 : s.due hi k = #[.int .u64 ((0 : Nat) : Int), .bool false] := by unfold Wh.due; rw [hf]; rfl
    rw [e1]
    exact pdueX hx hi k false hl 0 (fun h => nomatch h) fun _ => rfl
  | true =>
    obtain ⟨t, ht, h1, h2, hf⟩ := Wh.live_ent hs.ok hl
    have e1 : s.due hi k = #[.int .u64 (t.at_ : Int), .bool true] := by unfold Wh.due; rw [hf]
    rw [e1]
    refine pdueX hx hi k true hl t.at_ (fun _ => ⟨t.i, h1.symm, ?_, (hr.ent t ht).1⟩) (fun h => nomatch h)
    rcases Nat.lt_or_ge t.i s.a.has.length with q | q
    · exact q
    · obtain ⟨q1, q2⟩ := hs.ok.ent t ht
      rw [Ar.at_out q] at q1
      omega
theorem pw_tick (h : PW w p s F) (hs : s.Fit m) : Calls Tryz.prog 46 #[.pointer (some ⟨p, 0, none⟩)] w fun e w' => ∃ E dE, e = .returned (.tuple #[.slice E s.told.length dE, .int .i64 s.tickE]) ∧ OwnC w' w.heap.size 108 3 E s.told.length dE (rwc 3 fev s.told) ∧ ∃ F', PW w' p s.tick F' ∧ Ext F F' w w' ∧ ∀ k, Value.ownBlock (.slice E s.told.length dE) = some k → ¬ F' k := by
  obtain ⟨ap, z, g, c, S, ta, tw, tt, hx, hr⟩ := h
  by_cases hl : s.now = 18446744073709551615
  · have e1 : s.told = [] := if_pos hl
    have e2 : s.tickE = 15 := if_pos hl
    have e3 : s.tick = s := if_pos hl
    rw [e1, e2, e3]
    refine (ptickX_last hx hl).mono ?_
    rintro e w' ⟨rfl, hb⟩
    exact ⟨none, 0, rfl, OwnC.nil_ _ _ _ _ _, F, ⟨ap, z, g, c, S, ta, tw, tt, hx.step hb, hr⟩, .of_below hb, fun k e => by cases e⟩
  · have e1 : s.told = s.fires := if_neg hl
    have e2 : s.tickE = 0 := if_neg hl
    have e3 : s.tick = s.ticked := if_neg hl
    have hlt : s.now < 18446744073709551615 := by have := hs.ok.now; omega
    rw [e1, e2, e3]
    have hta : ∀ i, s.a.at_ i ≠ 0 → ta i < 18446744073709551616 := fun i hi => by
      obtain ⟨t, ht, rfl⟩ := hs.ok.all i hi
      rw [(hr.ent t ht).1]
      exact (hs.ok.fut t ht).2
    refine (ptickX hx hs.ok.a hlt hta hr.next).mono ?_
    rintro e w' ⟨S1, D, hp1, hpm, hpw, E, dE, F', S2, ta2, tw2, tt2, rfl, ho, hx', he, hnf, hp2, hs2⟩
    have hD := due_sorted hr hs.ok hp1 hpm hpw
    have hmap : (D.map fun x => (⟨x, s.a.at_ x, s.now + 1, tw x⟩ : Tm)) = s.fires := by
      rw [hD, List.map_map]
      conv => rhs; rw [← List.map_id s.fires]
      refine List.map_congr_left fun t ht => ?_
      obtain ⟨q1, q2⟩ := Wh.mem_fires.1 ht
      show (⟨t.i, s.a.at_ t.i, s.now + 1, tw t.i⟩ : Tm) = t
      rw [(hs.ok.ent t q1).1, (hr.ent t q1).2.1, ← q2]
    have hlen : D.length = s.fires.length := by rw [hD, List.length_map]
    rw [hmap] at ho
    rw [hlen] at ho hnf ⊢
    rw [hD] at hx' hp2 hs2
    exact ⟨E, dE, rfl, ho, F', ⟨ap, z, g, c, S2, ta2, tw2, tt2, hx', hr.ticked (S' := S) hs.ok hp2 (fun j hj => (hs2 j hj).1) (fun j hj => (hs2 j hj).2.1) (fun j hj => (hs2 j hj).2.2)⟩, he, hnf⟩
theorem pw_now (h : PW w p s F) : Calls Tryz.prog 48 #[.pointer (some ⟨p, 0, none⟩)] w (ret (.int .u64 (s.now : Int)) w) := by
  obtain ⟨ap, z, g, c, S, ta, tw, tt, hx, hr⟩ := h
  exact pnow hx
end
theorem pw_new (w : World) (n : Nat) (h1 : 1 ≤ n) (h2 : n ≤ 65536) : Calls Tryz.prog 30 #[.int .i64 (n : Int)] w fun e w' => ∃ p F, e = .returned (.tuple #[.pointer (some ⟨p, 0, none⟩), .int .i64 0]) ∧ PW w' p (Wh.new n) F ∧ (∀ k, F k → w.heap.size ≤ k) ∧ Below w.heap.size w w' := by
  refine (pwnewX w n h1 h2).mono ?_
  rintro e w' ⟨p, ap, z, g, F, rfl, hx, hF, hb⟩
  exact ⟨p, F, rfl, ⟨ap, z, g, n, _, _, _, _, hx, WRep.new n⟩, hF, hb⟩
section
variable {w : World} {pa : Option Addr}
end
end Go.Proofs.YtimcdnbfdkpffaaGreat
/- Stage 13: the landed table in memory. -/
namespace Go.Proofs.YtimcdnbfdkpffaaGreat
set_option maxRecDepth 100000
open Go.RowKit Go.Shelf
/-- The state of a place, as the landed table has it. -/
def stc (s : Tb) (k : Nat) : Nat := if s.ful k then 1 else if s.mrk k then 2 else 0
theorem stc_ful {s : Tb} {k : Nat} (h : s.ful k = true) : stc s k = 1 := by
  unfold stc
  rw [if_pos h]
theorem stc_not {s : Tb} {k : Nat} (h : s.ful k = false) : stc s k ≠ 1 := by
  unfold stc
  rw [if_neg (by rw [h]; exact Bool.false_ne_true)]
  split <;> decide
theorem stc_mrk {s : Tb} {k : Nat} (h : s.ful k = false) (h' : s.mrk k = true) : stc s k = 2 := by
  unfold stc
  rw [if_neg (by rw [h]; exact Bool.false_ne_true), if_pos h']
theorem stc_no {s : Tb} {k : Nat} (h : s.ful k = false) (h' : s.mrk k = false) : stc s k = 0 := by
  unfold stc
  rw [if_neg (by rw [h]; exact Bool.false_ne_true), if_neg (by rw [h']; exact Bool.false_ne_true)]
def tcl (s : Tb) (k : Nat) : Value := if k % 3 = 0 then .int .u8 (stc s (k / 3) : Int) else if k % 3 = 1 then .int .u64 (s.eh (k / 3) : Int) else .int .u32 (s.ew (k / 3) : Int)
theorem tcl_one (s : Tb) (k : Nat) : (tcl s k).oneCell' = true := by
  unfold tcl
  split
  · rfl
  · split <;> rfl
theorem tcl_0 (s : Tb) (j : Nat) : tcl s (j * 3) = .int .u8 (stc s j : Int) := by
  unfold tcl
  rw [if_pos (by omega), show j * 3 / 3 = j by omega]
theorem tcl_1 (s : Tb) (j : Nat) : tcl s (j * 3 + 1) = .int .u64 (s.eh j : Int) := by
  unfold tcl
  rw [if_neg (by omega), if_pos (by omega), show (j * 3 + 1) / 3 = j by omega]
theorem tcl_2 (s : Tb) (j : Nat) : tcl s (j * 3 + 2) = .int .u32 (s.ew j : Int) := by
  unfold tcl
  rw [if_neg (by omega), if_neg (by omega), show (j * 3 + 2) / 3 = j by omega]
theorem tcl_put (s : Tb) (p h x k : Nat) : tcl (s.put p h x) k = updV (updV (updV (tcl s) (p * 3) (.int .u8 1)) (p * 3 + 1) (.int .u64 (h : Int))) (p * 3 + 2) (.int .u32 (x : Int)) k := by
  unfold updV
  by_cases e2 : k = p * 3 + 2
  · rw [if_pos e2, e2, tcl_2]
    show Value.int .u32 (updM s.ew p x p : Int) = _
    rw [updM_at]
  · rw [if_neg e2]
    by_cases e1 : k = p * 3 + 1
    · rw [if_pos e1, e1, tcl_1]
      show Value.int .u64 (updM s.eh p h p : Int) = _
      rw [updM_at]
    · rw [if_neg e1]
      by_cases e0 : k = p * 3
      · rw [if_pos e0, e0, tcl_0, stc_ful (s := s.put p h x) (updB_at _ _ _)]
        rfl
      · rw [if_neg e0]
        unfold tcl stc
        show (if k % 3 = 0 then Value.int .u8 ((if updB s.ful p true (k / 3) then 1 else if updB s.mrk p false (k / 3) then 2 else 0 : Nat) : Int) else if k % 3 = 1 then .int .u64 (updM s.eh p h (k / 3) : Int) else .int .u32 (updM s.ew p x (k / 3) : Int)) = _
        by_cases q : k / 3 = p
        · omega
        · rw [updB_ne q, updB_ne q, updM_ne q, updM_ne q]
theorem tcl_gone (s : Tb) (p k : Nat) : tcl (s.gone p) k = updV (updV (updV (tcl s) (p * 3) (.int .u8 2)) (p * 3 + 1) (.int .u64 0)) (p * 3 + 2) (.int .u32 0) k := by
  unfold updV
  by_cases e2 : k = p * 3 + 2
  · rw [if_pos e2, e2, tcl_2]
    show Value.int .u32 (updM s.ew p 0 p : Int) = _
    rw [updM_at]
    rfl
  · rw [if_neg e2]
    by_cases e1 : k = p * 3 + 1
    · rw [if_pos e1, e1, tcl_1]
      show Value.int .u64 (updM s.eh p 0 p : Int) = _
      rw [updM_at]
      rfl
    · rw [if_neg e1]
      by_cases e0 : k = p * 3
      · rw [if_pos e0, e0, tcl_0, stc_mrk (s := s.gone p) (updB_at _ _ _) (updB_at _ _ _)]
        rfl
      · rw [if_neg e0]
        unfold tcl stc
        show (if k % 3 = 0 then Value.int .u8 ((if updB s.ful p false (k / 3) then 1 else if updB s.mrk p true (k / 3) then 2 else 0 : Nat) : Int) else if k % 3 = 1 then .int .u64 (updM s.eh p 0 (k / 3) : Int) else .int .u32 (updM s.ew p 0 (k / 3) : Int)) = _
        by_cases q : k / 3 = p
        · omega
        · rw [updB_ne q, updB_ne q, updM_ne q, updM_ne q]
/-- A number of places divides 2 to the 64th: a sum that wraps round is still right. -/
theorem powJ_dvd {j : Nat} (hj : j ≤ 15) : ∃ m, 18446744073709551616 = powJ j * m := by
  match j, hj with
  | 0, _ => exact ⟨2305843009213693952, by decide⟩
  | 1, _ => exact ⟨1152921504606846976, by decide⟩
  | 2, _ => exact ⟨576460752303423488, by decide⟩
  | 3, _ => exact ⟨288230376151711744, by decide⟩
  | 4, _ => exact ⟨144115188075855872, by decide⟩
  | 5, _ => exact ⟨72057594037927936, by decide⟩
  | 6, _ => exact ⟨36028797018963968, by decide⟩
  | 7, _ => exact ⟨18014398509481984, by decide⟩
  | 8, _ => exact ⟨9007199254740992, by decide⟩
  | 9, _ => exact ⟨4503599627370496, by decide⟩
  | 10, _ => exact ⟨2251799813685248, by decide⟩
  | 11, _ => exact ⟨1125899906842624, by decide⟩
  | 12, _ => exact ⟨562949953421312, by decide⟩
  | 13, _ => exact ⟨281474976710656, by decide⟩
  | 14, _ => exact ⟨140737488355328, by decide⟩
  | 15, _ => exact ⟨70368744177664, by decide⟩
  | j + 16, h => exact absurd h (by omega)
theorem st_wrap {s : Tb} (hm : mayI (s.n : Int) = true) (h i : Nat) : (h + i) % 18446744073709551616 % s.n = s.st h i := by
  obtain ⟨j, hj, e⟩ := mayI_pow hm
  obtain ⟨m, hm⟩ := powJ_dvd hj
  have e' : s.n = powJ j := by omega
  unfold Tb.st
  rw [hm, e', Nat.mod_mul_right_mod, Nat.mod_add_mod]
/-- The landed table at a block, as fields: its row's cells f, of n places; how many are empty, have an entry, have a mark. -/
structure PTY (w : World) (p g n c : Nat) (e en mk : Int) (f : Nat → Value) (F : Nat → Prop) : Prop where
  blk : w.heap[p]? = some (.cells #[.slice (some ⟨g, 0, none⟩) n c, .int .i64 e, .int .i64 en, .int .i64 mk] 185 (0, 0))
  row : OwnC w 0 212 3 (some ⟨g, 0, none⟩) n c f
  mp : F p
  mg : F g
  old : ∀ k, F k → k < w.heap.size
  may : mayI (n : Int) = true
section
variable {w w' : World} {p g n c : Nat} {e en mk : Int} {f : Nat → Value} {F : Nat → Prop}
theorem PTY.ne (h : PTY w p g n c e en mk f F) : p ≠ g := OwnC.ne h.row h.blk (by decide)
theorem PTY.keep {R : Nat → Prop} (h : PTY w p g n c e en mk f F) (hk : Kept R w w') (hd : ∀ k, F k → ¬ R k) : PTY w' p g n c e en mk f F :=
  ⟨(hk.block p (h.old p h.mp) (hd p h.mp)).trans h.blk, h.row.block (hk.block g (h.old g h.mg) (hd g h.mg)), h.mp, h.mg, fun k hF => Nat.lt_of_lt_of_le (h.old k hF) hk.size, h.may⟩
theorem PTY.step (h : PTY w p g n c e en mk f F) (hb : Below w.heap.size w w') : PTY w' p g n c e en mk f F := h.keep (Kept.of_below hb fun _ => False) fun _ _ q => q
theorem PTY.pos (h : PTY w p g n c e en mk f F) : 8 ≤ n ∧ n ≤ 262144 := by
  obtain ⟨n, e, h1, h2⟩ := mayI_pos h.may
  omega
theorem PTY.cap (h : PTY w p g n c e en mk f F) : n ≤ c := h.row.cap
theorem PTY.cap9 (h : PTY w p g n c e en mk f F) : c ≤ 9223372036854775807 := by
  have := h.row.cap_le
  unfold maxLen at this
  omega
theorem PTY.cell (h : PTY w p g n c e en mk f F) {k : Nat} (hk : k < n * 3) : w.cell? ⟨g, k, none⟩ = some (f k) := by
  obtain ⟨g', e, _, _, hc, _⟩ := h.row.lies (by have := h.pos; omega)
  injection e with e
  injection e with e
  subst e
  exact hc _ hk
theorem PTY.fz (h : PTY w p g n c e en mk f F) (k : Nat) : w.frozen? ⟨g, k, none⟩ = false := by
  obtain ⟨g', e, _, _, _, hf⟩ := h.row.lies (by have := h.pos; omega)
  injection e with e
  injection e with e
  subst e
  exact hf k
theorem PTY.drew (h : PTY w p g n c e en mk f F) : PTY w.drew p g n c e en mk f F := h.step (Below.refl _ w).drew
theorem PTY.set1 (h : PTY w p g n c e en mk f F) (v : Int) : PTY (w.setCell ⟨p, 1, none⟩ (.int .i64 v)) p g n c v en mk f F :=
  ⟨blk_set h.blk 1 _, h.row.block (Below.heap_setCell w ⟨p, 1, none⟩ _ g (Ne.symm h.ne)), h.mp, h.mg, fun k hF => by simpa using h.old k hF, h.may⟩
theorem PTY.set2 (h : PTY w p g n c e en mk f F) (v : Int) : PTY (w.setCell ⟨p, 2, none⟩ (.int .i64 v)) p g n c e v mk f F :=
  ⟨blk_set h.blk 2 _, h.row.block (Below.heap_setCell w ⟨p, 2, none⟩ _ g (Ne.symm h.ne)), h.mp, h.mg, fun k hF => by simpa using h.old k hF, h.may⟩
theorem PTY.set3 (h : PTY w p g n c e en mk f F) (v : Int) : PTY (w.setCell ⟨p, 3, none⟩ (.int .i64 v)) p g n c e en v f F :=
  ⟨blk_set h.blk 3 _, h.row.block (Below.heap_setCell w ⟨p, 3, none⟩ _ g (Ne.symm h.ne)), h.mp, h.mg, fun k hF => by simpa using h.old k hF, h.may⟩
theorem PTY.put (h : PTY w p g n c e en mk f F) (j : Nat) (a b d : Value) : PTY (w.setCells g (j * 3) [a, b, d]) p g n c e en mk (updV (updV (updV f (j * 3) a) (j * 3 + 1) b) (j * 3 + 2) d) F := by
  refine ⟨(other_setCells h.ne _ _ _).trans h.blk, ((h.row.set_ (j * 3) a).set_ (j * 3 + 1) b).set_ (j * 3 + 2) d, h.mp, h.mg, fun k hF => ?_, h.may⟩
  have := h.old k hF
  have e := (below_setCells (b := g) (Nat.zero_le _) [a, b, d] (j * 3) w (Below.refl 0 w)).size
  omega
theorem PTY.there (h : PTY w p g n c e en mk f F) {j : Nat} (hj : j < n) : w.there g (j * 3) 3 := fun k hk => by
  refine ⟨?_, h.fz _⟩
  rw [h.cell (by omega)]
  rfl
theorem PTY.same (h : PTY w p g n c e en mk f F) {f' : Nat → Value} (hf : ∀ k, f' k = f k) : PTY w p g n c e en mk f' F :=
  ⟨h.blk, h.row.same fun k _ => hf k, h.mp, h.mg, h.old, h.may⟩
end
/-- .. as what it stands for. -/
def PTX (w : World) (p g c : Nat) (e : Int) (s : Tb) (F : Nat → Prop) : Prop := PTY w p g s.n c e (s.entries : Int) (s.marks : Int) (tcl s) F
def PT0 (w : World) (p : Nat) (s : Tb) (F : Nat → Prop) : Prop := ∃ g c e, PTX w p g c e s F
section
variable {w w' : World} {p g c : Nat} {e : Int} {s : Tb} {F : Nat → Prop}
theorem PTX.c0 (h : PTX w p g c e s F) {j : Nat} (hj : j < s.n) : w.cell? ⟨g, j * 3, none⟩ = some (.int .u8 (stc s j : Int)) := by
  rw [← tcl_0 s j]
  exact PTY.cell h (by omega)
theorem PTX.c1 (h : PTX w p g c e s F) {j : Nat} (hj : j < s.n) : w.cell? ⟨g, j * 3 + 1, none⟩ = some (.int .u64 (s.eh j : Int)) := by
  rw [← tcl_1 s j]
  exact PTY.cell h (by omega)
theorem PTX.c2 (h : PTX w p g c e s F) {j : Nat} (hj : j < s.n) : w.cell? ⟨g, j * 3 + 2, none⟩ = some (.int .u32 (s.ew j : Int)) := by
  rw [← tcl_2 s j]
  exact PTY.cell h (by omega)
theorem footPT0 : FootG PT0 :=
  ⟨fun h hk hd => by
    obtain ⟨g, c, e, h⟩ := h
    exact ⟨g, c, e, PTY.keep h hk hd⟩, fun h => by
    obtain ⟨g, c, e, h⟩ := h
    exact PTY.old h⟩
end
theorem put_entries (s : Tb) {k h x : Nat} (hk : k < s.n) (hf : s.ful k = false) : (s.put k h x).entries = s.entries + 1 := by
  have := cntI_upd s.ful k true hk
  rw [hf] at this
  show cntI (updB s.ful k true) s.n = cntI s.ful s.n + 1
  simpa using this
theorem put_marks0 (s : Tb) {k h x : Nat} (hk : k < s.n) (hf : s.mrk k = false) : (s.put k h x).marks = s.marks := by
  have := cntI_upd s.mrk k false hk
  rw [hf] at this
  show cntI (updB s.mrk k false) s.n = cntI s.mrk s.n
  simpa using this
theorem put_marks1 (s : Tb) {k h x : Nat} (hk : k < s.n) (hf : s.mrk k = true) : (s.put k h x).marks + 1 = s.marks := by
  have := cntI_upd s.mrk k false hk
  rw [hf] at this
  show cntI (updB s.mrk k false) s.n + 1 = cntI s.mrk s.n
  simpa using this
theorem gone_entries (s : Tb) {k : Nat} (hk : k < s.n) (hf : s.ful k = true) : (s.gone k).entries + 1 = s.entries := by
  have := cntI_upd s.ful k false hk
  rw [hf] at this
  show cntI (updB s.ful k false) s.n + 1 = cntI s.ful s.n
  simpa using this
theorem gone_marks (s : Tb) {k : Nat} (hk : k < s.n) (hf : s.mrk k = false) : (s.gone k).marks = s.marks + 1 := by
  have := cntI_upd s.mrk k true hk
  rw [hf] at this
  show cntI (updB s.mrk k true) s.n = cntI s.mrk s.n + 1
  simpa using this
end Go.Proofs.YtimcdnbfdkpffaaGreat
/- Stage 13: the landed table: has, made, count, Places, Entries, Marks. -/
namespace Go.Proofs.YtimcdnbfdkpffaaGreat
set_option maxRecDepth 100000
open Go.RowKit Go.Shelf
def hasB (n : Nat) (q : Int) : Bool := decide (0 ≤ q) && decide (q < (n : Int))
theorem thas_0 (w : World) (q : Int) : Calls Tryz.prog 152 #[.pointer none, .int .i64 q] w (ret (.bool false) w) := by
  go_enter Tryz.func152, Tryz.ntmps152
  go_wp2_with fail
  go_ret
  exact ⟨rfl, Below.refl _ _⟩
theorem thas_c (w : World) (p : Nat) (A : Option Addr) (n c : Nat) (h : w.cell? ⟨p, 0, none⟩ = some (.slice A n c)) (q : Int) : Calls Tryz.prog 152 #[.pointer (some ⟨p, 0, none⟩), .int .i64 q] w (ret (.bool (hasB n q)) w) := by
  by_cases h0 : (0 : Int) ≤ q
  · by_cases h1 : q < (n : Int)
    · have hR : hasB n q = true := by unfold hasB; simp [h0, h1]
      rw [hR]
      clear hR
      go_enter Tryz.func152, Tryz.ntmps152
      go_wp2_with fail
      go_ret
      exact ⟨rfl, Below.refl _ _⟩
    · have hR : hasB n q = false := by unfold hasB; simp [h1]
      rw [hR]
      clear hR
      go_enter Tryz.func152, Tryz.ntmps152
      go_wp2_with fail
      go_ret
      exact ⟨rfl, Below.refl _ _⟩
  · have hR : hasB n q = false := by unfold hasB; simp [h0]
    rw [hR]
    clear hR
    go_enter Tryz.func152, Tryz.ntmps152
    go_wp2_with fail
    go_ret
    exact ⟨rfl, Below.refl _ _⟩
theorem tmade_0 (w : World) : Calls Tryz.prog 130 #[.pointer none] w (ret (.bool false) w) := by
  go_enter Tryz.func130, Tryz.ntmps130
  go_wp2_with (first
    | (go_at_call 152
       refine (thas_0 w 0).mono ?_
       rintro e u1 ⟨rfl, hb⟩
       have HB := Lib.hid hb
       clear hb))
  go_ret
  exact ⟨rfl, HB.out⟩
theorem tmade_c (w : World) (p : Nat) (A : Option Addr) (n c : Nat) (h : w.cell? ⟨p, 0, none⟩ = some (.slice A n c)) : Calls Tryz.prog 130 #[.pointer (some ⟨p, 0, none⟩)] w (ret (.bool (decide (0 < n))) w) := by
  have HC := Lib.hid (thas_c w p A n c h 0)
  have hR : hasB n 0 = decide (0 < n) := by unfold hasB; simp
  rw [hR] at HC
  clear h hR
  go_enter Tryz.func130, Tryz.ntmps130
  go_wp2_with (first
    | (go_at_call 152
       refine HC.out.mono ?_
       rintro e u1 ⟨rfl, hb⟩
       have HB := Lib.hid hb
       clear hb))
  go_ret
  exact ⟨rfl, HB.out⟩
theorem tmade_yes {w : World} {p : Nat} {A : Option Addr} {n c : Nat} (h : w.cell? ⟨p, 0, none⟩ = some (.slice A n c)) (hn : 8 ≤ n) : Calls Tryz.prog 130 #[.pointer (some ⟨p, 0, none⟩)] w (ret (.bool true) w) := by
  have := tmade_c w p A n c h
  rwa [show decide (0 < n) = true from by simp; omega] at this
theorem tmade_no {w : World} {p : Nat} (h : w.cell? ⟨p, 0, none⟩ = some (.slice none 0 0)) : Calls Tryz.prog 130 #[.pointer (some ⟨p, 0, none⟩)] w (ret (.bool false) w) := tmade_c w p none 0 0 h
/-- A table that is not there, or was not made. -/
def Unm (pa : Option Addr) (w : World) : Prop := pa = none ∨ ∃ p, pa = some ⟨p, 0, none⟩ ∧ w.cell? ⟨p, 0, none⟩ = some (.slice none 0 0)
theorem tmade_un {pa : Option Addr} {w : World} (h : Unm pa w) : Calls Tryz.prog 130 #[.pointer pa] w (ret (.bool false) w) := by
  rcases h with rfl | ⟨p, rfl, h⟩
  · exact tmade_0 w
  · exact tmade_no h
theorem tcount_1 {w : World} {p g n c : Nat} {e en mk : Int} {f : Nat → Value} {F : Nat → Prop} (h : PTY w p g n c e en mk f F) : Calls Tryz.prog 192 #[.pointer (some ⟨p, 0, none⟩), .int .u8 1] w (ret (.int .i64 en) w) := by
  have x0 : w.cell? ⟨p, 0, none⟩ = some (.slice (some ⟨g, 0, none⟩) n c) := blk_cell h.blk 0
  have HM := Lib.hid (tmade_yes x0 h.pos.1)
  have HX := Lib.hid h
  clear x0 h
  go_enter Tryz.func192, Tryz.ntmps192
  go_wp2_with (first
    | (go_at_call 130
       refine HM.out.mono ?_
       rintro e u1 ⟨rfl, hb⟩
       have HB := Lib.hid hb
       have x1 : u1.cell? ⟨p, 2, none⟩ = some (.int .i64 en) := blk_cell (HX.out.step hb).blk 2
       clear hb))
  go_ret
  exact ⟨rfl, HB.out⟩
theorem tentries_c {pa : Option Addr} {w : World} {v : Int} (h : Calls Tryz.prog 192 #[.pointer pa, .int .u8 1] w (ret (.int .i64 v) w)) : Calls Tryz.prog 175 #[.pointer pa] w (ret (.int .i64 v) w) := by
  have HM := Lib.hid h
  clear h
  go_enter Tryz.func175, Tryz.ntmps175
  go_wp2_with (first
    | (go_at_call 192
       refine HM.out.mono ?_
       rintro e u1 ⟨rfl, hb⟩
       have HB := Lib.hid hb
       clear hb))
  go_ret
  exact ⟨rfl, HB.out⟩
theorem tcount_2 {w : World} {p g n c : Nat} {e en mk : Int} {f : Nat → Value} {F : Nat → Prop} (h : PTY w p g n c e en mk f F) : Calls Tryz.prog 192 #[.pointer (some ⟨p, 0, none⟩), .int .u8 2] w (ret (.int .i64 mk) w) := by
  have x0 : w.cell? ⟨p, 0, none⟩ = some (.slice (some ⟨g, 0, none⟩) n c) := blk_cell h.blk 0
  have HM := Lib.hid (tmade_yes x0 h.pos.1)
  have HX := Lib.hid h
  clear x0 h
  go_enter Tryz.func192, Tryz.ntmps192
  go_wp2_with (first
    | (go_at_call 130
       refine HM.out.mono ?_
       rintro e u1 ⟨rfl, hb⟩
       have HB := Lib.hid hb
       have x2 : u1.cell? ⟨p, 3, none⟩ = some (.int .i64 mk) := blk_cell (HX.out.step hb).blk 3
       clear hb))
  go_ret
  exact ⟨rfl, HB.out⟩
theorem tmarks_c {pa : Option Addr} {w : World} {v : Int} (h : Calls Tryz.prog 192 #[.pointer pa, .int .u8 2] w (ret (.int .i64 v) w)) : Calls Tryz.prog 176 #[.pointer pa] w (ret (.int .i64 v) w) := by
  have HM := Lib.hid h
  clear h
  go_enter Tryz.func176, Tryz.ntmps176
  go_wp2_with (first
    | (go_at_call 192
       refine HM.out.mono ?_
       rintro e u1 ⟨rfl, hb⟩
       have HB := Lib.hid hb
       clear hb))
  go_ret
  exact ⟨rfl, HB.out⟩
theorem tplaces {w : World} {p g n c : Nat} {e en mk : Int} {f : Nat → Value} {F : Nat → Prop} (h : PTY w p g n c e en mk f F) : Calls Tryz.prog 103 #[.pointer (some ⟨p, 0, none⟩)] w (ret (.int .i64 (n : Int)) w) := by
  have x0 : w.cell? ⟨p, 0, none⟩ = some (.slice (some ⟨g, 0, none⟩) n c) := blk_cell h.blk 0
  have HM := Lib.hid (tmade_yes x0 h.pos.1)
  have HX := Lib.hid h
  clear x0 h
  go_enter Tryz.func103, Tryz.ntmps103
  go_wp2_with (first
    | (go_at_call 130
       refine HM.out.mono ?_
       rintro e u1 ⟨rfl, hb⟩
       have HB := Lib.hid hb
       have x0 : u1.cell? ⟨p, 0, none⟩ = some (.slice (some ⟨g, 0, none⟩) n c) := blk_cell (HX.out.step hb).blk 0
       clear hb))
  go_ret
  exact ⟨rfl, HB.out⟩
end Go.Proofs.YtimcdnbfdkpffaaGreat
