import Derived.Test.YtkmakdhlaenaoaaGm30
/- Stage 11: known; WheelNone. -/
namespace Go.Proofs.Ytkmakdhlaenaoaa
set_option maxRecDepth 100000
open Go.RowKit Go.Shelf
/-- At p stands s, in blocks from w on, beside those of X. -/
def WSt (w : World) (X : Nat → Prop) (W : World) (p : Nat) (s : Wh) : Prop := ∃ F, PW W p s F ∧ (∀ k, F k → w.heap.size ≤ k ∧ ¬ X k) ∧ (∀ k, X k → k < W.heap.size) ∧ Below w.heap.size w W
section
variable {w W W' : World} {X : Nat → Prop} {p : Nat} {s s' : Wh} {F F' : Nat → Prop} {m : Nat}
theorem WSt.below (h : WSt w X W p s) : Below w.heap.size w W := by
  obtain ⟨_, _, _, _, h⟩ := h
  exact h
theorem WSt.step (h : WSt w X W p s) (hb : Below W.heap.size W W') : WSt w X W' p s := by
  obtain ⟨F, h1, h2, h3, h4⟩ := h
  exact ⟨F, h1.keep (Kept.of_below hb fun _ => False) (fun _ _ q => q), h2, fun k hk => Nat.lt_of_lt_of_le (h3 k hk) hb.size, h4.trans (hb.mono h4.size)⟩
theorem WSt.ext (h2 : ∀ k, F k → w.heap.size ≤ k ∧ ¬ X k) (h3 : ∀ k, X k → k < W.heap.size) (h4 : Below w.heap.size w W) (hp : PW W' p s' F') (he : Ext F F' W W') : WSt w X W' p s' ∧ ∀ k, X k → W'.heap[k]? = W.heap[k]? := by
  refine ⟨⟨F', hp, fun k hk => ?_, fun k hk => Nat.lt_of_lt_of_le (h3 k hk) he.kept.size, h4.trans (he.kept.below h4.size fun k hk => (h2 k hk).1)⟩, fun k hk => he.kept.block k (h3 k hk) fun hF => (h2 k hF).2 hk⟩
  rcases he.sub k hk with q | ⟨q, _⟩
  · exact h2 k q
  · exact ⟨Nat.le_trans h4.size q, fun hx => absurd (h3 k hx) (by omega)⟩
theorem WSt.ptr (h : WSt w X W p s) : w.heap.size ≤ p := by
  obtain ⟨F, h1, h2, _⟩ := h
  exact (h2 p h1.ptr).1
theorem WSt.arm (h : WSt w X W p s) (hs : s.Fit m) (at_ what : Nat) (ha : at_ < 18446744073709551616) : Calls Try.prog 15 #[.pointer (some ⟨p, 0, none⟩), .int .u64 (at_ : Int), .int .u64 (what : Int)] W fun e w' => e = .returned (.tuple #[.agg (s.armH at_), .int .i64 (s.armE at_)]) ∧ WSt w X w' p (s.arm at_ what) ∧ ∀ k, X k → w'.heap[k]? = W.heap[k]? := by
  obtain ⟨F, h1, h2, h3, h4⟩ := h
  refine (pw_arm h1 hs at_ what ha).mono ?_
  rintro e w' ⟨rfl, F', hp, he⟩
  exact ⟨rfl, WSt.ext h2 h3 h4 hp he⟩
theorem WSt.again (h : WSt w X W p s) (hs : s.Fit m) (hi : Int) (k at_ : Nat) (ha : at_ < 18446744073709551616) : Calls Try.prog 17 #[.pointer (some ⟨p, 0, none⟩), .agg #[.int .i64 hi, .int .u64 (k : Int)], .int .u64 (at_ : Int)] W fun e w' => e = .returned (.int .i64 (s.againE hi k at_)) ∧ WSt w X w' p (s.again hi k at_) ∧ ∀ k, X k → w'.heap[k]? = W.heap[k]? := by
  obtain ⟨F, h1, h2, h3, h4⟩ := h
  refine (pw_again h1 hs hi k at_ ha).mono ?_
  rintro e w' ⟨rfl, F', hp, he⟩
  exact ⟨rfl, WSt.ext h2 h3 h4 hp he⟩
theorem WSt.cancel (h : WSt w X W p s) (hs : s.Fit m) (hi : Int) (k : Nat) : Calls Try.prog 18 #[.pointer (some ⟨p, 0, none⟩), .agg #[.int .i64 hi, .int .u64 (k : Int)]] W fun e w' => e = .returned (.int .i64 (s.cancelE hi k)) ∧ WSt w X w' p (s.cancel hi k) ∧ ∀ k, X k → w'.heap[k]? = W.heap[k]? := by
  obtain ⟨F, h1, h2, h3, h4⟩ := h
  refine (pw_cancel h1 hs hi k).mono ?_
  rintro e w' ⟨rfl, F', hp, he⟩
  exact ⟨rfl, WSt.ext h2 h3 h4 hp he⟩
theorem WSt.skip (h : WSt w X W p s) (hs : s.Fit m) (t9 : Nat) (ht : t9 < 18446744073709551616) : Calls Try.prog 8 #[.pointer (some ⟨p, 0, none⟩), .int .u64 (t9 : Int)] W fun e w' => e = .returned (.int .i64 (s.skipE t9)) ∧ WSt w X w' p (s.skip t9) ∧ ∀ k, X k → w'.heap[k]? = W.heap[k]? := by
  obtain ⟨F, h1, h2, h3, h4⟩ := h
  refine (pw_skip h1 hs t9 ht).mono ?_
  rintro e w' ⟨rfl, F', hp, he⟩
  exact ⟨rfl, WSt.ext h2 h3 h4 hp he⟩
/-- What fired lies beside it. -/
theorem WSt.tick (h : WSt w X W p s) (hs : s.Fit m) : Calls Try.prog 16 #[.pointer (some ⟨p, 0, none⟩)] W fun e w' => ∃ E dE, e = .returned (.tuple #[.slice E s.told.length dE, .int .i64 s.tickE]) ∧ OwnC w' W.heap.size 58 3 E s.told.length dE (rwc 3 fev s.told) ∧ WSt w (Or2 X fun k => Value.ownBlock (.slice E s.told.length dE) = some k) w' p s.tick ∧ ∀ k, X k → w'.heap[k]? = W.heap[k]? := by
  obtain ⟨F, h1, h2, h3, h4⟩ := h
  refine (pw_tick h1 hs).mono ?_
  rintro e w' ⟨E, dE, rfl, ho, F', hp, he, hn⟩
  obtain ⟨⟨F2, q1, q2, q3, q4⟩, q5⟩ := WSt.ext h2 h3 h4 hp he
  refine ⟨E, dE, rfl, ho, ⟨F', hp, fun k hk => ?_, fun k hk => ?_, q4⟩, q5⟩
  · have hk2 : w.heap.size ≤ k ∧ ¬ X k := by
      rcases he.sub k hk with q | ⟨q, _⟩
      · exact h2 k q
      · exact ⟨Nat.le_trans h4.size q, fun hx => absurd (h3 k hx) (by omega)⟩
    exact ⟨hk2.1, fun hx => hx.elim hk2.2 fun e => hn k e hk⟩
  · rcases hk with hk | hk
    · exact q3 k hk
    · obtain ⟨a, e1, e2⟩ := ownBlock_some hk
      rcases ho.2 with ⟨hh, _⟩ | ⟨g', cap, cur, hv, _, hh, _⟩
      · rw [e1] at hh
        cases hh
      · injection hv with q1 _ _
        rw [e1] at q1
        injection q1 with q1
        rw [q1] at e2
        have e2 : g' = k := e2
        rw [← e2]
        exact lt_heap hh
theorem WSt.less (h : WSt w X W p s) {Y : Nat → Prop} (hY : ∀ k, Y k → X k) : WSt w Y W p s := by
  obtain ⟨F, h1, h2, h3, h4⟩ := h
  exact ⟨F, h1, fun k hk => ⟨(h2 k hk).1, fun y => (h2 k hk).2 (hY k y)⟩, fun k hk => h3 k (hY k hk), h4⟩
theorem WSt.now (h : WSt w X W p s) : Calls Try.prog 11 #[.pointer (some ⟨p, 0, none⟩)] W (ret (.int .u64 (s.now : Int)) W) := by
  obtain ⟨F, h1, _⟩ := h
  exact pw_now h1
theorem WSt.len (h : WSt w X W p s) (hs : s.Ok) : Calls Try.prog 12 #[.pointer (some ⟨p, 0, none⟩)] W (ret (.int .i64 (s.l.length : Int)) W) := by
  obtain ⟨F, h1, _⟩ := h
  exact pw_len h1 hs
theorem WSt.due (h : WSt w X W p s) (hs : s.Fit m) (hi : Int) (k : Nat) : Calls Try.prog 13 #[.pointer (some ⟨p, 0, none⟩), .agg #[.int .i64 hi, .int .u64 (k : Int)]] W (ret (.tuple (s.due hi k)) W) := by
  obtain ⟨F, h1, _⟩ := h
  exact pw_due h1 hs hi k
end
theorem wst_new (w W : World) (hb : Below w.heap.size w W) (n : Nat) (h1 : 1 ≤ n) (h2 : n ≤ 65536) : Calls Try.prog 7 #[.int .i64 (n : Int)] W fun e w' => ∃ p, e = .returned (.tuple #[.pointer (some ⟨p, 0, none⟩), .int .i64 0]) ∧ WSt w (fun _ => False) w' p (Wh.new n) ∧ W.heap.size ≤ p ∧ Below W.heap.size W w' := by
  refine (pw_new W n h1 h2).mono ?_
  rintro e w' ⟨p, F, rfl, hp, hF, hb2⟩
  exact ⟨p, rfl, ⟨F, hp, fun k hk => ⟨Nat.le_trans hb.size (hF k hk), id⟩, fun k hk => hk.elim, hb.trans (hb2.mono hb.size)⟩, hF p hp.ptr, hb2⟩
/-! The page's example. -/
def k0 : Wh := ((Wh.new 4).arm 2 7).arm 1 8
def k1 : Wh := k0.tick.arm 0 9
theorem k0_told : k0.told = [⟨1, 2, 1, 8⟩] := by rfl
theorem k1_told : k1.told = [⟨0, 1, 2, 7⟩, ⟨1, 3, 2, 9⟩] := by rfl
theorem k0_err : k0.tickE = 0 := by rfl
theorem k1_err : k1.tickE = 0 := by rfl
theorem k1_now : k1.tick.now = 2 := by rfl
theorem k1_len : k1.tick.l.length = 0 := by rfl
end Go.Proofs.Ytkmakdhlaenaoaa
/- Stage 11: known; WheelNone. -/
namespace Go.Proofs.Ytkmakdhlaenaoaa
set_option maxRecDepth 100000
open Go.RowKit Go.Shelf
set_option maxHeartbeats 1000000 in
theorem known_any (w : World) : Calls Try.prog 6 #[] w (ret (.bool true) w) := by
  have HN := wst_new w w (Below.refl _ _) 4 (by omega) (by omega)
  rw [show ((4 : Nat) : Int) = 4 from rfl] at HN
  have HNN := Lib.hid HN
  clear HN
  go_enter Try.func6, Try.ntmps6
  go_upto_region 4 with (first
    | (go_at_call 7
       refine HNN.out.mono ?_
       rintro e v1 ⟨p, rfl, hs1, hp1, hb1⟩))
  have HS1 := Lib.hid hs1
  have HF1 : Hid ((Wh.new 4).Fit 0) := Lib.hid (Wh.fit_new (by omega))
  clear hs1 hp1 hb1 HNN
  have HA2 := HS1.out.arm HF1.out 2 7 (by omega)
  rw [show ((2 : Nat) : Int) = 2 from rfl, show ((7 : Nat) : Int) = 7 from rfl] at HA2
  have HAA2 := Lib.hid HA2
  clear HA2
  go_upto_region 5 with (first
    | (go_at_call 15
       refine HAA2.out.mono ?_
       rintro e v2 ⟨rfl, hs2, hx2⟩))
  have HS2 : Hid (WSt w (fun _ => False) v2 p ((Wh.new 4).arm 2 7)) := Lib.hid hs2
  have HF2 : Hid (((Wh.new 4).arm 2 7).Fit 1) := Lib.hid (Wh.fit_arm HF1.out (by omega) (by omega) 7)
  clear hs2 HAA2
  generalize (Wh.new 4).armH 2 = ah2 at *
  generalize (Wh.new 4).armE 2 = ae2 at *
  have HA3 := HS2.out.arm HF2.out 1 8 (by omega)
  rw [show ((1 : Nat) : Int) = 1 from rfl, show ((8 : Nat) : Int) = 8 from rfl] at HA3
  have HAA3 := Lib.hid HA3
  clear HA3
  go_upto_region 6 with (first
    | (go_at_call 15
       refine HAA3.out.mono ?_
       rintro e v3 ⟨rfl, hs3, hx3⟩))
  have HS3 : Hid (WSt w (fun _ => False) v3 p (((Wh.new 4).arm 2 7).arm 1 8)) := Lib.hid hs3
  have HF3 : Hid ((((Wh.new 4).arm 2 7).arm 1 8).Fit 2) := Lib.hid (Wh.fit_arm HF2.out (by omega) (by omega) 8)
  clear hs3 HAA3
  generalize ((Wh.new 4).arm 2 7).armH 1 = ah3 at *
  generalize ((Wh.new 4).arm 2 7).armE 1 = ae3 at *
  clear hx2 hx3
  have HT4 := HS3.out.tick HF3.out
  rw [show ((Wh.new 4).arm 2 7).arm 1 8 = k0 from rfl, k0_told, k0_err] at HT4
  have HTT4 := Lib.hid HT4
  clear HT4
  go_upto_region 7 with (first
    | (go_at_call 16
       refine HTT4.out.mono ?_
       rintro e v4 ⟨E1, d1, rfl, ho4, hs4, hx4⟩))
  have HS4 := Lib.hid hs4
  have HF4 : Hid (k0.tick.Fit 2) := Lib.hid (Wh.fit_tick HF3.out)
  have HO4 := Lib.hid (ho4.le (Nat.zero_le _))
  clear hs4 ho4 hx4 HTT4
  obtain ⟨XROW, hxr⟩ : ∃ X : Nat → Prop, X = Or2 (fun _ => False) fun k => Value.ownBlock (.slice E1 ([⟨1, 2, 1, 8⟩] : List Tm).length d1) = some k := ⟨_, rfl⟩
  have HXR := Lib.hid hxr
  rw [← hxr] at HS4
  clear hxr
  have HA5 := HS4.out.arm HF4.out 0 9 (by omega)
  rw [show ((0 : Nat) : Int) = 0 from rfl, show ((9 : Nat) : Int) = 9 from rfl] at HA5
  have HAA5 := Lib.hid HA5
  clear HA5
  go_upto_region 8 with (first
    | (go_at_call 15
       refine HAA5.out.mono ?_
       rintro e v5 ⟨rfl, hs5, hx5⟩))
  have HS5 : Hid (WSt w XROW v5 p (k0.tick.arm 0 9)) := Lib.hid hs5
  have HF5 : Hid ((k0.tick.arm 0 9).Fit 3) := Lib.hid (Wh.fit_arm HF4.out (by omega) (by omega) 9)
  clear hs5 HAA5
  generalize (k0.tick).armH 0 = ah5 at *
  generalize (k0.tick).armE 0 = ae5 at *
  have HO5 := Lib.hid (HO4.out.keepAny fun g e => hx5 g (by rw [HXR.out]; exact .inr (by rw [e]; rfl)))
  clear hx5 HO4
  have HT6 := HS5.out.tick HF5.out
  rw [show k0.tick.arm 0 9 = k1 from rfl, k1_told, k1_err] at HT6
  have HTT6 := Lib.hid HT6
  clear HT6
  go_upto_region 9 with (first
    | (go_at_call 16
       refine HTT6.out.mono ?_
       rintro e v6 ⟨E2, d2, rfl, ho6, hs6, hx6⟩))
  have HS6 := Lib.hid hs6
  have HF6 : Hid (k1.tick.Fit 3) := Lib.hid (Wh.fit_tick HF5.out)
  have HO6 := Lib.hid (HO5.out.keepAny fun g e => hx6 g (by rw [HXR.out]; exact .inr (by rw [e]; rfl)))
  have HP6 := Lib.hid (ho6.le (Nat.zero_le _))
  clear hs6 ho6 hx6 HTT6 HO5
  obtain ⟨g1, hg1, _, _, hc1, _⟩ := HO6.out.lies (by decide)
  obtain ⟨g2, hg2, _, _, hc2, _⟩ := HP6.out.lies (by decide)
  have c1 : v6.cell? ⟨g1, 2, none⟩ = some (.int .u64 8) := hc1 2 (by decide)
  have c2 : v6.cell? ⟨g2, 2, none⟩ = some (.int .u64 7) := hc2 2 (by decide)
  have c3 : v6.cell? ⟨g2, 3 + 2, none⟩ = some (.int .u64 9) := hc2 5 (by decide)
  have c4 : v6.cell? ⟨g2, 5, none⟩ = some (.int .u64 9) := hc2 5 (by decide)
  have cap1 := HO6.out.cap
  have cap2 := HP6.out.cap
  have HW := HS6.out.now
  rw [k1_now] at HW
  have HWW := Lib.hid HW
  have HL := fun W (hb : Below v6.heap.size v6 W) => (HS6.out.step hb).len HF6.out.ok
  rw [k1_len] at HL
  have HLL := Lib.hid HL
  have HB6 := Lib.hid HS6.out.below
  subst hg1 hg2
  clear hc1 hc2 HW HL HS1 HS2 HS3 HS4 HS5 HF1 HF2 HF3 HF4 HF5 HXR
  simp only [List.length_cons, List.length_nil, Nat.zero_add] at cap1 cap2 ⊢
  go_wp2_with (first
    | (go_at_call 11
       refine HWW.out.mono ?_
       rintro e v7 ⟨rfl, hbb⟩
       have B7 := Lib.hid hbb
       clear hbb)
    | (go_at_call 12
       refine (HLL.out _ B7.out).mono ?_
       rintro e v8 ⟨rfl, hbb⟩
       have B8 := Lib.hid (B7.out.trans (hbb.mono B7.out.size))
       clear hbb))
  go_ret
  exact ⟨rfl, HB6.out.trans (B8.out.mono HB6.out.size)⟩
end Go.Proofs.Ytkmakdhlaenaoaa
