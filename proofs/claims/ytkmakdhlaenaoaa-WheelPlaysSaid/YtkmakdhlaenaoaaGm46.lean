import Derived.Test.YtkmakdhlaenaoaaGm16
import Derived.Test.YtkmakdhlaenaoaaGm32
import Derived.Test.YtkmakdhlaenaoaaGm45
/- A region that draws its order, told in two phases: ahead of one operation (a call that turns what is old) and behind it; frames told by closed keys. Over any program. -/
namespace Go.Proofs.Ytkmakdhlaenaoaa
open Go.RowKit
section
variable {P : Program} {ops : Array Oper} {Q : Exit → Act → World → Prop}
/-- Whatever stands behind the n-th operation waits for it, or for another one behind it. -/
def lateB (ops : Array Oper) (n : Nat) : Bool := decide (n < ops.size) && (List.range ops.size).all fun i => decide (i ≤ n) || (match ops[i]? with | some o => o.after.any (fun e => Region.binds .any e && decide (n ≤ e.on)) | none => true)
theorem lateB_spec {n : Nat} (h : lateB ops n = true) : n < ops.size ∧ ∀ (i : Nat) (o : Oper), ops[i]? = some o → n < i → ∃ e, e ∈ o.after ∧ Region.binds .any e = true ∧ n ≤ e.on := by
  unfold lateB at h
  rw [Bool.and_eq_true] at h
  refine ⟨of_decide_eq_true h.1, fun i o ho hi => ?_⟩
  have hs : i < ops.size := (Array.getElem?_eq_some_iff.1 ho).1
  have r := List.all_eq_true.1 h.2 i (List.mem_range.2 hs)
  rw [ho] at r
  have h0 : decide (i ≤ n) = false := by simp; omega
  rw [h0, Bool.false_or] at r
  obtain ⟨e, he, hb⟩ := Array.any_eq_true'.1 r
  rw [Bool.and_eq_true] at hb
  exact ⟨e, he, hb.1, of_decide_eq_true hb.2⟩
theorem wpAny_switch (n : Nat) (hn : n < ops.size) (I : Array Bool → Act → World → Prop) (hI : ∀ l a w, I l a w → l.size = ops.size) (hord : ∀ (i : Nat) (o : Oper), ops[i]? = some o → ∀ e, e ∈ o.after → Region.binds .any e = true → e.on < i)
    (hlate : ∀ (i : Nat) (o : Oper), ops[i]? = some o → n < i → ∃ e, e ∈ o.after ∧ Region.binds .any e = true ∧ n ≤ e.on)
    (hstep : ∀ l a w i o, I l a w → i < n → ops[i]? = some o → l.getD i true = false → (∀ e, e ∈ o.after → Region.binds .any e = true → l.getD e.on false = true) → Region.wanted o (yielded ops a.tmps) = true ∧ o.wp P a w (fun a' w' => I (l.setIfInBounds i true) a' w') Q)
    (hsw : ∀ l a w i o, I l a w → i = n → ops[i]? = some o → l.getD i true = false → (∀ j, n ≤ j → l.getD j false = false) → (∀ e, e ∈ o.after → Region.binds .any e = true → l.getD e.on false = true) → Region.wanted o (yielded ops a.tmps) = true ∧ o.wp P a w (fun a' w' => ∀ fuel, unl (l.setIfInBounds i true) ≤ fuel → wpAny P .any ops Q fuel (l.setIfInBounds i true) a' w') Q) :
    ∀ fuel l a w, I l a w → (∀ j, n ≤ j → l.getD j false = false) → unl l ≤ fuel → wpAny P .any ops Q fuel l a w
  | 0, l, a, w, h, hz, hf => by
    exfalso
    have hr : Region.ready .any ops l = [] := by
      cases hc : Region.ready .any ops l with
      | nil => rfl
      | cons i r =>
        have hm : i ∈ Region.ready .any ops l := by rw [hc]; exact .head _
        exact absurd (Nat.le_zero.1 hf) (unl_none (rdy_spec hm).2.1)
    have hc := all_come hord (hI l a w h) hr n hn
    rw [hz n (Nat.le_refl _)] at hc
    cases hc
  | fuel + 1, l, a, w, h, hz, hf => by
    refine ⟨fun hr => ?_, fun i hi => ?_⟩
    · have hc := all_come hord (hI l a w h) hr n hn
      rw [hz n (Nat.le_refl _)] at hc
      cases hc
    obtain ⟨h1, h2, h3⟩ := rdy_spec hi
    have ho : ops[i]? = some ops[i] := Array.getElem?_eq_getElem h1
    unfold wpOp
    rw [ho]
    show if Region.wanted ops[i] (yielded ops a.tmps) = true then _ else _
    rcases Nat.lt_trichotomy i n with hlt | heq | hgt
    · obtain ⟨hw, hs⟩ := hstep l a w i _ h hlt ho h2 (h3 _ ho)
      rw [if_pos hw]
      refine .inl (Oper.wp_mono (fun a' w' h' => ?_) hs)
      exact wpAny_switch n hn I hI hord hlate hstep hsw fuel _ a' w' h' (fun j hj => by rw [getD_set (by omega)]; exact hz j hj) (by have := unl_set h2; omega)
    · obtain ⟨hw, hs⟩ := hsw l a w i _ h heq ho h2 hz (h3 _ ho)
      rw [if_pos hw]
      exact .inl (Oper.wp_mono (fun a' w' h' => h' fuel (by have := unl_set h2; omega)) hs)
    · exfalso
      obtain ⟨e, he, hb, hle⟩ := hlate i _ ho hgt
      have hc := h3 _ ho e he hb
      rw [hz e.on hle] at hc
      cases hc
theorem wp_region_switch {id : Nat} {a : Act} {w : World} (n : Nat) (I : Act → Array Bool → Act → World → Prop) (hm : P.follows .mixedOrders = true) (hI : ∀ l a' w, I a l a' w → l.size = ops.size)
    (hB : ordG ops = true) (hL : lateB ops n = true) (h0 : I a (Array.replicate ops.size false) a w.drew)
    (hstep : ∀ l a' w i o, I a l a' w → i < n → ops[i]? = some o → l.getD i true = false → (∀ e, e ∈ o.after → Region.binds .any e = true → l.getD e.on false = true) → Region.wanted o (yielded ops a'.tmps) = true ∧ o.wp P a' w (fun a'' w' => I a (l.setIfInBounds i true) a'' w') Q)
    (hsw : ∀ l a' w i o, I a l a' w → i = n → ops[i]? = some o → l.getD i true = false → (∀ j, n ≤ j → l.getD j false = false) → (∀ e, e ∈ o.after → Region.binds .any e = true → l.getD e.on false = true) → Region.wanted o (yielded ops a'.tmps) = true ∧ o.wp P a' w (fun a'' w' => ∀ fuel, unl (l.setIfInBounds i true) ≤ fuel → wpAny P .any ops Q fuel (l.setIfInBounds i true) a'' w') Q) : (Code.region id ops true).wp P Q a w :=
  wp_region_any hm (wpAny_switch n (lateB_spec hL).1 (I a) hI (ordG_spec hB) (lateB_spec hL).2 hstep hsw ops.size _ _ _ h0 (fun j _ => getD_none _ j) (by
    unfold unl
    have := List.countP_le_length (p := fun b => !b) (l := (Array.replicate ops.size false).toList)
    simpa using this))
end
/-- The entries (place, slot, value) off closed keys. -/
def kv (K : List (Nat × Nat)) (V : Nat → Value) : List (Nat × Nat × Value) := K.map fun x => (x.1, x.2, V x.1)
def keyB (K : List (Nat × Nat)) (i s : Nat) : Bool := K.contains (i, s) && K.all fun x => (x.1 == i && x.2 == s) || (x.1 != i && x.2 != s)
section
variable {a0 a : Act} {K : List (Nat × Nat)} {V : Nat → Value} {l : Array Bool}
theorem FrU.putK (h : FrU a0 (kv K V) l a) (i s : Nat) (v : Value) (hs : s < a0.tmps.size) (hk : keyB K i s = true) (hv : V i = v) : FrU a0 (kv K V) (l.setIfInBounds i true) (a.put (some s) v) := by
  unfold keyB at hk
  rw [Bool.and_eq_true] at hk
  refine h.put i s v hs ⟨(i, s, V i), List.mem_map.2 ⟨(i, s), by simpa using hk.1, rfl⟩, rfl⟩ (fun x hx => ?_) fun x hx => ⟨x, hx, rfl⟩
  obtain ⟨y, hy, rfl⟩ := List.mem_map.1 hx
  have := List.all_eq_true.1 hk.2 y hy
  simp only [Bool.or_eq_true, Bool.and_eq_true, beq_iff_eq, bne_iff_ne, ne_eq] at this
  rcases this with ⟨e1, e2⟩ | ⟨e1, e2⟩
  · exact .inl ⟨e1, e2, by show V y.1 = v; rw [e1]; exact hv⟩
  · exact .inr ⟨e1, e2, hx⟩
theorem FrU.slotK (h : FrU a0 (kv K V) l a) {i s : Nat} {v : Value} (hk : K.contains (i, s) = true) (hl : l.getD i false = true) (hv : V i = v) : a.tmps[s]?.getD undef = v := by
  rw [← hv]
  exact h.slot (List.mem_map.2 ⟨(i, s), by simpa using hk, rfl⟩) hl
theorem FrU.baseK (h : FrU a0 (kv K V) l a) (s : Nat) (hk : (K.all fun x => x.2 != s) = true) {v : Value} (h0 : a0.tmps[s]?.getD undef = v) : a.tmps[s]?.getD undef = v := by
  refine h.base s (fun x hx => ?_) h0
  obtain ⟨y, hy, rfl⟩ := List.mem_map.1 hx
  have := List.all_eq_true.1 hk y hy
  simpa using this
def keysB : List (Nat × Nat) → Bool
  | [] => true
  | x :: r => r.all (fun y => x.2 != y.2) && keysB r
theorem keysB_spec : ∀ {K : List (Nat × Nat)}, keysB K = true → ∀ V, (kv K V).Pairwise fun x y => x.2.1 ≠ y.2.1
  | [], _, _ => .nil
  | x :: r, h, V => by
    unfold keysB at h
    rw [Bool.and_eq_true] at h
    refine List.pairwise_cons.2 ⟨fun z hz => ?_, keysB_spec h.2 V⟩
    obtain ⟨y, hy, rfl⟩ := List.mem_map.1 hz
    have := List.all_eq_true.1 h.1 y hy
    simpa using this
theorem FrU.allK (h : FrU a0 (kv K V) l a) {n : Nat} (hl : ∀ i, i < n → l.getD i false = true) (hk : (keysB K && K.all fun x => decide (x.1 < n) && decide (x.2 < a0.tmps.size)) = true) : a = { tmps := setAll (kv K V) a0.tmps, defers := a0.defers } := by
  rw [Bool.and_eq_true] at hk
  refine h.all (fun x hx => ?_) (keysB_spec hk.1 V) fun x hx => ?_
  all_goals
    obtain ⟨y, hy, rfl⟩ := List.mem_map.1 hx
    have := List.all_eq_true.1 hk.2 y hy
    simp only [Bool.and_eq_true, decide_eq_true_eq] at this
  · exact hl _ this.1
  · exact this.2
/-- More keys, none of which has come. -/
theorem FrU.wideK {K' : List (Nat × Nat)} {V' : Nat → Value} {n : Nat} (h : FrU a0 (kv K V) l a) (hz : ∀ j, n ≤ j → l.getD j false = false) (hsub : (K.all fun x => K'.contains x) = true) (hnew : (K'.all fun x => decide (n ≤ x.1) || K.contains x) = true) (hV : ∀ i, i < n → V i = V' i) : FrU a0 (kv K' V') l a := by
  obtain ⟨h1, h2, h3, h4⟩ := h
  refine ⟨h1, h2, fun x hx hl => ?_, fun s hs => h4 s fun x hx => ?_⟩
  · obtain ⟨y, hy, rfl⟩ := List.mem_map.1 hx
    by_cases hn : n ≤ y.1
    · have := hz y.1 hn
      rw [show l.getD y.1 false = true from hl] at this
      cases this
    · have := List.all_eq_true.1 hnew y hy
      simp only [Bool.or_eq_true, decide_eq_true_eq] at this
      have hm : y ∈ K := by rcases this with q | q; exact absurd q hn; simpa using q
      show a.tmps[y.2]?.getD undef = V' y.1
      rw [← hV y.1 (by omega)]
      exact h3 _ (List.mem_map.2 ⟨y, hm, rfl⟩) hl
  · obtain ⟨y, hy, rfl⟩ := List.mem_map.1 hx
    have := List.all_eq_true.1 hsub y hy
    exact hs (y.1, y.2, V' y.1) (List.mem_map.2 ⟨y, by simpa using this, rfl⟩)
end
end Go.Proofs.Ytkmakdhlaenaoaa
/- Stage 11: WheelPlays, the main case. -/
namespace Go.Proofs.Ytkmakdhlaenaoaa
set_option maxRecDepth 100000
open Go.RowKit Go.Shelf
def s0 (n fr : Nat) : Wh := ⟨Ar.new n, [], fr, 0⟩
theorem skip_new (n fr : Nat) : (Wh.new n).skipE fr = 0 ∧ (Wh.new n).skip fr = s0 n fr := ⟨rfl, rfl⟩
theorem due_form (s : Wh) (hi : Int) (k : Nat) : ∃ (v : Nat) (d : Bool), s.due hi k = #[.int .u64 (v : Int), .bool d] := by
  unfold Wh.due
  split
  · exact ⟨0, false, rfl⟩
  · exact ⟨_, true, rfl⟩
theorem getD_keep {l : Array Bool} {i j : Nat} (h : l.getD j false = true) : (l.setIfInBounds i true).getD j false = true := by
  by_cases e : j = i
  · subst e
    rw [Array.getD_eq_getD_getElem?, Array.getElem?_setIfInBounds_self_of_lt]
    · rfl
    · rcases Nat.lt_or_ge j l.size with q | q
      · exact q
      · rw [Array.getD_eq_getD_getElem?, Array.getElem?_eq_none q] at h
        cases h
  · rw [getD_set e]
    exact h
theorem getD_true {l : Array Bool} {n j : Nat} (hl : l.size = n) (hj : j < n) (h : l.getD j false = true) : l.getD j true = true := by
  rw [Array.getD_eq_getD_getElem?, Array.getElem?_eq_getElem (by omega)] at h ⊢
  exact h
theorem FrU.allB {a0 a : Act} {K : List (Nat × Nat)} {V : Nat → Value} {BL : List (Nat × Nat × Value)} {l : Array Bool} (h : FrU a0 (kv K V) l a) (hB : kv K V = BL) {n : Nat} (hl : ∀ i, i < n → l.getD i false = true) (hk : (keysB K && K.all fun x => decide (x.1 < n) && decide (x.2 < a0.tmps.size)) = true) : a = { tmps := setAll BL a0.tmps, defers := a0.defers } := by
  subst hB
  exact h.allK hl hk
/-- The document's timers, in memory: their count. -/
theorem PL.lenc {w W : World} {X : Nat → Prop} {b p q : Nat} {E : Option Addr} {hc tk : Nat} {hs : List (Nat × Nat)} {s t : Wh} (h : PL w X W b p q E hc hs tk s t) : ∃ (B : Option Addr) (d : Nat), W.cell? ⟨q, 1, none⟩ = some (.slice B t.l.length d) := by
  obtain ⟨F, G, _, ⟨r, B, d, hx⟩, _⟩ := h.st
  exact ⟨B, d, blk_cell hx.blk 1⟩
set_option maxHeartbeats 2000000 in
theorem plays_any (n : Nat) (hn1 : 1 ≤ n) (hn2 : n ≤ 40) (fr : Nat) (hfr : fr < 18446744073709551616) (A : Option Addr) (m c : Nat) (hm : m ≤ 60) (hmc : m ≤ c) (hc9 : c ≤ 9223372036854775807) (w : World) (f : Nat → Value) (hr : RdC w w.heap.size A (m * 4) f)
    (hf : ∀ i, i < m → ∃ (κ hh : Int) (at_ what : Nat), f (i * 4) = .int .i64 κ ∧ f (i * 4 + 1) = .int .i64 hh ∧ f (i * 4 + 2) = .int .u64 (at_ : Int) ∧ f (i * 4 + 3) = .int .u64 (what : Int) ∧ hh ≤ 9223372036854775807 ∧ at_ < 18446744073709551616) : Calls Try.prog 3 #[.int .i64 (n : Int), .int .u64 (fr : Int), .slice A m c] w (ret (.bool true) w) := by
  have HR := Lib.hid hr
  have HOPS := Lib.hid hf
  clear hr hf
  have HKN := Lib.hid known_any
  have HNW := Lib.hid (pw_new w n hn1 (by omega))
  have HRN := Lib.hid fun W => rwnew W n (by omega)
  have b1 : ¬ (60 : Int) < (m : Int) := by omega
  have b2 : ¬ (40 : Int) < (n : Int) := by omega
  have b3 : ¬ (n : Int) < 1 := by omega
  have b4 : ¬ (65536 : Int) < (n : Int) := by omega
  go_enter Try.func3, Try.ntmps3
  go_upto_region 6 with (first
    | (go_at_call 7
       refine HNW.out.mono ?_
       rintro e u1 ⟨p, F1, rfl, hp1, hf1, hb1⟩
       have HP1 := Lib.hid hp1
       have HF1 := Lib.hid hf1
       have HB1 := Lib.hid hb1
       clear hp1 hf1 hb1 HNW))
  have hsk := pw_skip HP1.out (Wh.fit_new (by omega)) fr hfr
  rw [(skip_new n fr).1, (skip_new n fr).2] at hsk
  have HSK := Lib.hid hsk
  clear hsk
  go_upto_region 8 with (first
    | (go_at_call 8
       refine HSK.out.mono ?_
       rintro e u2 ⟨rfl, F2, hp2, he2⟩
       have HP2 := Lib.hid hp2
       have HF2 : Hid (∀ k, F2 k → w.heap.size ≤ k) := Lib.hid fun k hk => (he2.sub k hk).elim (HF1.out k) fun q => Nat.le_trans HB1.out.size q.1
       have HB2 := Lib.hid (HB1.out.trans (he2.kept.below HB1.out.size HF1.out))
       clear hp2 he2 HP1 HF1 HB1 HSK))
  have hbd : ∀ (w : World) (q : Nat), (Instr.build 35 #[(0, .pointer (some ⟨p, 0, none⟩)), (1, .pointer (some ⟨q, 0, none⟩))]).run Try.prog w = .ok (.agg #[.pointer (some ⟨p, 0, none⟩), .pointer (some ⟨q, 0, none⟩), .slice none 0 0, .int .u64 0]) w := fun w q => by kernel_rfl
  go_upto_region 9 with (first
    | (go_at_call 9
       refine (HRN.out _).mono ?_
       rintro e u3 ⟨q, G3, rfl, hq3, hg3, hb3⟩
       have HQ3 := Lib.hid hq3
       have HG3 := Lib.hid hg3
       have HB3 := Lib.hid hb3
       clear hq3 hg3 hb3 HRN))
  obtain ⟨r, Bq, dq, hx⟩ := HQ3.out
  have hal := below_alloc u3 (.cells #[.pointer (some ⟨p, 0, none⟩), .pointer (some ⟨q, 0, none⟩), .slice none 0 0, .int .u64 0] 35)
  have HX4 := Lib.hid (hx.step hal)
  have HP4 := Lib.hid ((HP2.out.keep (Kept.of_below HB3.out fun _ => False) fun _ _ q => q).keep (Kept.of_below hal fun _ => False) fun _ _ q => q)
  have HB4 : Hid (Below w.heap.size w (u3.alloc (.cells #[.pointer (some ⟨p, 0, none⟩), .pointer (some ⟨q, 0, none⟩), .slice none 0 0, .int .u64 0] 35))) := Lib.hid ((HB2.out.trans (HB3.out.mono HB2.out.size)).trans (hal.mono (Nat.le_trans HB2.out.size HB3.out.size)))
  have HK4 : Hid ((u3.alloc (.cells #[.pointer (some ⟨p, 0, none⟩), .pointer (some ⟨q, 0, none⟩), .slice none 0 0, .int .u64 0] 35)).heap[u3.heap.size]? = some (.cells #[.pointer (some ⟨p, 0, none⟩), .pointer (some ⟨q, 0, none⟩), .slice none 0 0, .int .u64 0] 35 (0, 0))) := Lib.hid (heap_alloc_new u3 _)
  have HGB : Hid (∀ k, G3 k → w.heap.size ≤ k ∧ k ≠ u3.heap.size ∧ ¬ F2 k) := Lib.hid fun k hk => by
    have h1 := HG3.out k hk
    have h2 := HB2.out.size
    have h3 := hx.old k hk
    exact ⟨by omega, by omega, fun hf => by have := HP2.out.old k hf; omega⟩
  have HFB : Hid (∀ k, F2 k → w.heap.size ≤ k ∧ k ≠ u3.heap.size) := Lib.hid fun k hk => ⟨HF2.out k hk, fun e => by have := HP2.out.old k hk; have := HB3.out.size; omega⟩
  have HBB : Hid (w.heap.size ≤ u3.heap.size) := Lib.hid (Nat.le_trans HB2.out.size HB3.out.size)
  clear hx hal hbd HQ3 HG3 HB3 HP2 HF2 HB2
  change Code.wp _ _ _ _ (u3.alloc (.cells #[.pointer (some ⟨p, 0, none⟩), .pointer (some ⟨q, 0, none⟩), .slice none 0 0, .int .u64 0] 35))
  generalize u3.heap.size = b at *
  generalize u3.alloc (.cells #[.pointer (some ⟨p, 0, none⟩), .pointer (some ⟨q, 0, none⟩), .slice none 0 0, .int .u64 0] 35) = u4 at *
  have x1 : u4.cell? ⟨b, 1, none⟩ = some (.pointer (some ⟨q, 0, none⟩)) := blk_cell HK4.out 1
  have x2 : u4.cell? ⟨q, 2, none⟩ = some (.int .u64 ((Wh.new n).now : Int)) := blk_cell HX4.out.blk 2
  have y2 := blk_free HX4.out.blk 2
  have hks : Kept (fun k => k = q) u4 (u4.setCell ⟨q, 2, none⟩ (.int .u64 (fr : Int))) := Kept.setCell (R := fun k => k = q) (Kept.refl _ u4) (p := ⟨q, 2, none⟩) (.inl rfl) _
  have HPL : Hid (PL w (fun _ => False) (u4.setCell ⟨q, 2, none⟩ (.int .u64 (fr : Int))) b p q none 0 [] 0 (s0 n fr) (s0 n fr)) := Lib.hid
    ⟨(hks.block b (lt_heap HK4.out) fun e => (HGB.out q HX4.out.mq).2.1 e.symm).trans HK4.out,
     ⟨F2, G3, HP4.out.keep hks fun k hf e => (HGB.out q HX4.out.mq).2.2 (by rw [← e]; exact hf), ⟨r, Bq, dq, HX4.out.setNow fr⟩, fun k hf => ⟨(HFB.out k hf).1, fun x => x, (HFB.out k hf).2, fun hg => (HGB.out k hg).2.2 hf, fun e => nomatch e⟩, fun k hg => ⟨(HGB.out k hg).1, fun x => x, (HGB.out k hg).2.1, fun e => nomatch e⟩⟩,
     OwnC.nil_ _ _ _ _ _, (fun k e => nomatch e), HBB.out, (fun x => x), (fun k x => x.elim), HB4.out.trans (hks.below HB4.out.size fun k e => by rw [e]; exact (HGB.out q HX4.out.mq).1), fun _ => rfl⟩
  clear hks HX4 HP4 HB4 HK4 HGB HFB
  have HFIT : Hid ((s0 n fr).Fit 0) := Lib.hid (by
    have h := Wh.fit_skip (Wh.fit_new (n := n) (by omega)) hfr
    rw [(skip_new n fr).2] at h
    exact h)
  go_wp2_with fail
  clear x1 x2 y2
  generalize u4.setCell ⟨q, 2, none⟩ (.int .u64 (fr : Int)) = u5 at *
  go_loopw [76] (fun vi wr => ∃ (j p q : Nat) (E : Option Addr) (hc : Nat) (hs : List (Nat × Nat)) (tk : Nat) (s : Wh), vi = .int .i64 (j : Int) ∧ j ≤ m ∧ PL w (fun _ => False) wr b p q E hc hs tk s s ∧ s.Fit j ∧ hs.length ≤ j ∧ tk ≤ 70001 * j) (fun vi _ => m - (intOf vi).toNat)
  case atStart => exact ⟨0, p, q, none, 0, [], 0, s0 n fr, rfl, Nat.zero_le _, HPL.out, HFIT.out, Nat.le_refl _, Nat.le_refl _⟩
  case round =>
    obtain ⟨j, p, q, E, hc, hs, tk, s, rfl, hj0, hP, hF, hL, hT⟩ := hrel
    have HP := Lib.hid hP
    have HF := Lib.hid hF
    clear hP hF HPL HFIT
    by_cases hjm : j < m
    · rcases HR.out with h0 | ⟨bA, off, rfl, hbl, hcl⟩
      · omega
      obtain ⟨κ, hh, at_, what, hf0, hf1, hf2, hf3, h9, ha⟩ := HOPS.out j hjm
      have hcell : ∀ i, i < 4 → wr.cell? ⟨bA, off + (j * 4 + i), none⟩ = some (f (j * 4 + i)) := fun i hi => (HP.out.below.cell (p := ⟨bA, off + (j * 4 + i), none⟩) hbl).trans (hcl _ (by omega))
      have z0 : wr.cell? ⟨bA, off + j * 4, none⟩ = some (.int .i64 κ) := by rw [← hf0]; exact hcell 0 (by omega)
      have z1 : wr.cell? ⟨bA, off + j * 4 + 1, none⟩ = some (.int .i64 hh) := by rw [← hf1, Nat.add_assoc]; exact hcell 1 (by omega)
      have z2 : wr.cell? ⟨bA, off + j * 4 + 2, none⟩ = some (.int .u64 (at_ : Int)) := by rw [← hf2, Nat.add_assoc]; exact hcell 2 (by omega)
      have z3 : wr.cell? ⟨bA, off + j * 4 + 3, none⟩ = some (.int .u64 (what : Int)) := by rw [← hf3, Nat.add_assoc]; exact hcell 3 (by omega)
      clear hcell hcl hf0 hf1 hf2 hf3
      have i0 : (0 : Int) ≤ (j : Int) := by omega
      have i1 : (j : Int) < (m : Int) := by omega
      have i2 : ((j : Int)).toNat = j := by omega
      have zj : IntKind.i64.wrap ((j : Int) + 1) = (j : Int) + 1 := by rw [IntKind.wrap_i64]; omega
      have HP1 := Lib.hid (HP.out.box (.cells #[.int .i64 κ, .int .i64 hh, .int .u64 (at_ : Int), .int .u64 (what : Int)] 41))
      have HO1 : Hid ((wr.alloc (.cells #[.int .i64 κ, .int .i64 hh, .int .u64 (at_ : Int), .int .u64 (what : Int)] 41)).heap[wr.heap.size]? = some (.cells #[.int .i64 κ, .int .i64 hh, .int .u64 (at_ : Int), .int .u64 (what : Int)] 41 (0, 0))) := Lib.hid (heap_alloc_new wr _)
      go_upto_region 13 with fail
      change Code.wp _ _ _ _ (wr.alloc (.cells #[.int .i64 κ, .int .i64 hh, .int .u64 (at_ : Int), .int .u64 (what : Int)] 41))
      clear z0 z1 z2 z3 i0 i2 HP
      obtain ⟨ob, hob⟩ : ∃ z, z = wr.heap.size := ⟨_, rfl⟩
      rw [← hob] at HP1 HO1 ⊢
      clear hob
      generalize wr.alloc (.cells #[.int .i64 κ, .int .i64 hh, .int .u64 (at_ : Int), .int .u64 (what : Int)] 41) = v1 at *
      have HCL := Lib.hid (play_call (HP1.out.step (Below.refl _ _).drew) HF.out (by omega) (by omega) (by omega) κ hh h9 at_ what ha)
      rename_i Kc hKc
      refine wp_region_switch 2 (fun a0 l a W => l.size = 35 ∧ a0.tmps.size = 153 ∧ W = v1.drew ∧ FrU a0 (kv ([(0, 80), (1, 81)] : List (Nat × Nat)) (fun i => ([.pointer (some ⟨b, 0, none⟩), .agg #[.int .i64 κ, .int .i64 hh, .int .u64 (at_ : Int), .int .u64 (what : Int)]][i]?).getD undef)) l a) ?_ ?_ ?_ ?_ ?_ ?_ ?_
      · kernel_rfl
      · exact fun _ _ _ h => h.1
      · kernel_rfl
      · kernel_rfl
      · exact ⟨by simp, rfl, rfl, FrU.start _ _ _⟩
      · intro l a W i5 o hI hi ho hn hdep
        obtain ⟨hl, hsz, rfl, hF⟩ := hI
        match i5, hi, ho, hn with
        | 0, _, ho, hn =>
          simp only [List.getElem?_toArray, List.getElem?_cons_zero, Option.some.injEq] at ho
          subst ho
          refine ⟨rfl, ?_⟩
          have h9 : a.tmps[9]?.getD undef = .pointer (some ⟨b, 0, none⟩) := hF.baseK 9 rfl rfl
          exact owp_value (.pointer (some ⟨b, 0, none⟩)) (w' := v1.drew) (by clear hdep; go_simp) ⟨by simp [hl], hsz, rfl, hF.putK 0 80 _ (by rw [hsz]; decide) rfl rfl⟩
        | 1, _, ho, hn =>
          simp only [List.getElem?_toArray, List.getElem?_cons_zero, List.getElem?_cons_succ, Option.some.injEq] at ho
          subst ho
          refine ⟨rfl, ?_⟩
          have h11 : a.tmps[11]?.getD undef = .pointer (some ⟨ob, 0, none⟩) := hF.baseK 11 rfl rfl
          have hld := run_loadVar_row v1.drew ob 41 41 #[.int .i64 κ, .int .i64 hh, .int .u64 (at_ : Int), .int .u64 (what : Int)] (0, 0) _ HO1.out Try.underlying41 rfl (by kernel_rfl)
          refine owp_value (.agg #[.int .i64 κ, .int .i64 hh, .int .u64 (at_ : Int), .int .u64 (what : Int)]) (w' := v1.drew) ?_ ⟨by simp [hl], hsz, rfl, hF.putK 1 81 _ (by rw [hsz]; decide) rfl rfl⟩
          clear hdep
          simp only [execOp, Act.eval, Array.getD_eq_getD_getElem?, h11, Instr.loadAt, Instr.sureAddr, Sem.run_bind, Sem.run_pure, Result.andThen_ok, hld]
          all_goals rfl
        | i5 + 2, hi, _, _ => exact absurd hi (by omega)
      · intro l a W i5 o hI hi ho hn hz hdep
        obtain ⟨hl, hsz, rfl, hF⟩ := hI
        subst hi
        simp only [List.getElem?_toArray, List.getElem?_cons_zero, List.getElem?_cons_succ, Option.some.injEq] at ho
        subst ho
        refine ⟨rfl, ?_⟩
        have h80 := hF.slotK (i := 0) (s := 80) (v := .pointer (some ⟨b, 0, none⟩)) rfl (hdep ⟨0, .data⟩ (by simp) rfl) rfl
        have h81 := hF.slotK (i := 1) (s := 81) (v := .agg #[.int .i64 κ, .int .i64 hh, .int .u64 (at_ : Int), .int .u64 (what : Int)]) rfl (hdep ⟨1, .data⟩ (by simp) rfl) rfl
        refine owp_call (fn := 10) (args := #[.pointer (some ⟨b, 0, none⟩), .agg #[.int .i64 κ, .int .i64 hh, .int .u64 (at_ : Int), .int .u64 (what : Int)]]) (by clear hdep; go_simp) ?_
        refine HCL.out.mono ?_
        rintro e W2 ⟨rfl, p2, q2, E2, hc2, hs2, tk2, s2, hp2, hf2, hl2, ht2, _⟩
        have HP2 := Lib.hid (hp2.less (Y := fun _ => False) fun _ h => h.elim)
        have HF2 := Lib.hid hf2
        have HL2 : Hid (hs2.length ≤ j + 1) := Lib.hid (by omega)
        have HT2 : Hid (tk2 ≤ 70001 * (j + 1)) := Lib.hid (by omega)
        have hpre : l.getD 0 false = true ∧ l.getD 1 false = true := ⟨hdep ⟨0, .data⟩ (by simp) rfl, hdep ⟨1, .data⟩ (by simp) rfl⟩
        obtain ⟨LB, ld, hlc⟩ := HP2.out.lenc
        have HLC := Lib.hid hlc
        have HNC := Lib.hid HP2.out.nowc
        clear hp2 hf2 hl2 ht2 hdep hlc HCL HP1 HO1
        refine ⟨_, rfl, fun fuel hfuel => ?_⟩
        have hF2 : FrU _ (kv ([(0, 80), (1, 81), (2, 82), (3, 83), (4, 84), (5, 85), (6, 86), (7, 87), (8, 88), (9, 89), (10, 90), (11, 91), (12, 92), (13, 93), (14, 94), (15, 95), (16, 96), (17, 97), (18, 98), (19, 99), (20, 100), (21, 101), (22, 102), (23, 103), (24, 104), (25, 105), (26, 106), (27, 107), (28, 108), (29, 109), (30, 110), (31, 111), (32, 112), (33, 113), (34, 114)] : List (Nat × Nat)) (fun i => ([.pointer (some ⟨b, 0, none⟩), .agg #[.int .i64 κ, .int .i64 hh, .int .u64 (at_ : Int), .int .u64 (what : Int)], .bool true, .bool false, .bool false, .pointer (some ⟨b, 0, none⟩), .pointer (some ⟨b, 0, none⟩), .pointer (some ⟨b, 0, none⟩), .pointer (some ⟨p2, 0, none⟩), .int .u64 (s2.now : Int), .pointer (some ⟨b, 0, none⟩), .pointer (some ⟨b, 0, none⟩), .pointer (some ⟨b, 1, none⟩), .pointer (some ⟨q2, 0, none⟩), .pointer (some ⟨q2, 0, none⟩), .pointer (some ⟨q2, 2, none⟩), .int .u64 (s2.now : Int), .bool false, .bool false, .bool false, .pointer (some ⟨b, 0, none⟩), .pointer (some ⟨b, 0, none⟩), .pointer (some ⟨b, 0, none⟩), .pointer (some ⟨p2, 0, none⟩), .int .i64 (s2.l.length : Int), .pointer (some ⟨b, 0, none⟩), .pointer (some ⟨b, 0, none⟩), .pointer (some ⟨b, 1, none⟩), .pointer (some ⟨q2, 0, none⟩), .pointer (some ⟨q2, 0, none⟩), .pointer (some ⟨q2, 1, none⟩), .slice LB s2.l.length ld, .int .i64 (s2.l.length : Int), .bool false, .bool false][i]?).getD undef)) (l.setIfInBounds 2 true) (a.put (some 82) (.bool true)) := (hF.wideK (n := 2) hz rfl rfl (by
          intro i hi
          match i, hi with
          | 0, _ => rfl
          | 1, _ => rfl)).putK 2 82 _ (by rw [hsz]; decide) rfl rfl
        clear hF h80 h81
        refine wpAny_invG (fun l a W => l.size = 35 ∧ (l.getD 0 false = true ∧ l.getD 1 false = true ∧ l.getD 2 false = true) ∧ Below W2.heap.size W2 W ∧ FrU _ (kv ([(0, 80), (1, 81), (2, 82), (3, 83), (4, 84), (5, 85), (6, 86), (7, 87), (8, 88), (9, 89), (10, 90), (11, 91), (12, 92), (13, 93), (14, 94), (15, 95), (16, 96), (17, 97), (18, 98), (19, 99), (20, 100), (21, 101), (22, 102), (23, 103), (24, 104), (25, 105), (26, 106), (27, 107), (28, 108), (29, 109), (30, 110), (31, 111), (32, 112), (33, 113), (34, 114)] : List (Nat × Nat)) (fun i => ([.pointer (some ⟨b, 0, none⟩), .agg #[.int .i64 κ, .int .i64 hh, .int .u64 (at_ : Int), .int .u64 (what : Int)], .bool true, .bool false, .bool false, .pointer (some ⟨b, 0, none⟩), .pointer (some ⟨b, 0, none⟩), .pointer (some ⟨b, 0, none⟩), .pointer (some ⟨p2, 0, none⟩), .int .u64 (s2.now : Int), .pointer (some ⟨b, 0, none⟩), .pointer (some ⟨b, 0, none⟩), .pointer (some ⟨b, 1, none⟩), .pointer (some ⟨q2, 0, none⟩), .pointer (some ⟨q2, 0, none⟩), .pointer (some ⟨q2, 2, none⟩), .int .u64 (s2.now : Int), .bool false, .bool false, .bool false, .pointer (some ⟨b, 0, none⟩), .pointer (some ⟨b, 0, none⟩), .pointer (some ⟨b, 0, none⟩), .pointer (some ⟨p2, 0, none⟩), .int .i64 (s2.l.length : Int), .pointer (some ⟨b, 0, none⟩), .pointer (some ⟨b, 0, none⟩), .pointer (some ⟨b, 1, none⟩), .pointer (some ⟨q2, 0, none⟩), .pointer (some ⟨q2, 0, none⟩), .pointer (some ⟨q2, 1, none⟩), .slice LB s2.l.length ld, .int .i64 (s2.l.length : Int), .bool false, .bool false][i]?).getD undef)) l a) ?_ (ordG_spec (by kernel_rfl)) ?_ ?_ fuel _ _ _ ⟨by simp [hl], ⟨getD_keep hpre.1, getD_keep hpre.2, getD_set_self hn⟩, Below.refl _ _, hF2⟩ hfuel
        · exact fun _ _ _ h => h.1
        · clear hF2 hfuel hpre hl hz hn
          intro l a W i5 o hI ho hn hdep
          obtain ⟨hl, hpr, hW, hF⟩ := hI
          have x0 : W.cell? ⟨b, 0, none⟩ = some (.pointer (some ⟨p2, 0, none⟩)) := (hW.cell (p := ⟨b, 0, none⟩) (lt_heap HP2.out.blk)).trans (blk_cell HP2.out.blk 0)
          have x1 : W.cell? ⟨b, 1, none⟩ = some (.pointer (some ⟨q2, 0, none⟩)) := (hW.cell (p := ⟨b, 1, none⟩) (lt_heap HP2.out.blk)).trans (blk_cell HP2.out.blk 1)
          have xn : W.cell? ⟨q2, 2, none⟩ = some (.int .u64 (s2.now : Int)) := (hW.cell (p := ⟨q2, 2, none⟩) HNC.out.2).trans HNC.out.1
          have xl : W.cell? ⟨q2, 1, none⟩ = some (.slice LB s2.l.length ld) := (hW.cell (p := ⟨q2, 1, none⟩) HNC.out.2).trans HLC.out
          match i5, ho, hn with
          | 0, ho, hn =>
            exact absurd hn (by rw [getD_true hl (by decide) hpr.1]; decide)
          | 1, ho, hn =>
            exact absurd hn (by rw [getD_true hl (by decide) hpr.2.1]; decide)
          | 2, ho, hn =>
            exact absurd hn (by rw [getD_true hl (by decide) hpr.2.2]; decide)
          | 3, ho, hn =>
            simp only [List.getElem?_toArray, List.getElem?_cons_zero, List.getElem?_cons_succ, Option.some.injEq] at ho
            subst ho
            refine ⟨rfl, ?_⟩
            have h82 := hF.slotK (i := 2) (s := 82) (v := .bool true) rfl (hdep ⟨2, .data⟩ (by simp) rfl) rfl
            exact owp_value (.bool false) (w' := W) (by clear hdep; go_simp) ⟨by simp [hl], ⟨getD_keep hpr.1, getD_keep hpr.2.1, getD_keep hpr.2.2⟩, hW, hF.putK 3 83 _ (Nat.le_of_ble_eq_true rfl) rfl rfl⟩
          | 4, ho, hn =>
            simp only [List.getElem?_toArray, List.getElem?_cons_zero, List.getElem?_cons_succ, Option.some.injEq] at ho
            subst ho
            refine ⟨rfl, ?_⟩
            have h83 := hF.slotK (i := 3) (s := 83) (v := .bool false) rfl (hdep ⟨3, .data⟩ (by simp) rfl) rfl
            exact owp_value (.bool false) (w' := W) (by clear hdep; go_simp) ⟨by simp [hl], ⟨getD_keep hpr.1, getD_keep hpr.2.1, getD_keep hpr.2.2⟩, hW, hF.putK 4 84 _ (Nat.le_of_ble_eq_true rfl) rfl rfl⟩
          | 5, ho, hn =>
            simp only [List.getElem?_toArray, List.getElem?_cons_zero, List.getElem?_cons_succ, Option.some.injEq] at ho
            subst ho
            refine ⟨wanted_of (j := 4) (s := 84) (b := false) rfl rfl rfl (hF.slotK (i := 4) (s := 84) (v := .bool false) rfl (hdep ⟨4, .guard⟩ (by simp) rfl) rfl), ?_⟩
            have h9 : a.tmps[9]?.getD undef = .pointer (some ⟨b, 0, none⟩) := hF.baseK 9 rfl rfl
            exact owp_value (.pointer (some ⟨b, 0, none⟩)) (w' := W) (by clear hdep; go_simp) ⟨by simp [hl], ⟨getD_keep hpr.1, getD_keep hpr.2.1, getD_keep hpr.2.2⟩, hW, hF.putK 5 85 _ (Nat.le_of_ble_eq_true rfl) rfl rfl⟩
          | 6, ho, hn =>
            simp only [List.getElem?_toArray, List.getElem?_cons_zero, List.getElem?_cons_succ, Option.some.injEq] at ho
            subst ho
            refine ⟨wanted_of (j := 4) (s := 84) (b := false) rfl rfl rfl (hF.slotK (i := 4) (s := 84) (v := .bool false) rfl (hdep ⟨4, .guard⟩ (by simp) rfl) rfl), ?_⟩
            have h85 := hF.slotK (i := 5) (s := 85) (v := .pointer (some ⟨b, 0, none⟩)) rfl (hdep ⟨5, .data⟩ (by simp) rfl) rfl
            exact owp_value (.pointer (some ⟨b, 0, none⟩)) (w' := W) (by clear hdep; go_simp) ⟨by simp [hl], ⟨getD_keep hpr.1, getD_keep hpr.2.1, getD_keep hpr.2.2⟩, hW, hF.putK 6 86 _ (Nat.le_of_ble_eq_true rfl) rfl rfl⟩
          | 7, ho, hn =>
            simp only [List.getElem?_toArray, List.getElem?_cons_zero, List.getElem?_cons_succ, Option.some.injEq] at ho
            subst ho
            refine ⟨wanted_of (j := 4) (s := 84) (b := false) rfl rfl rfl (hF.slotK (i := 4) (s := 84) (v := .bool false) rfl (hdep ⟨4, .guard⟩ (by simp) rfl) rfl), ?_⟩
            have h86 := hF.slotK (i := 6) (s := 86) (v := .pointer (some ⟨b, 0, none⟩)) rfl (hdep ⟨6, .data⟩ (by simp) rfl) rfl
            exact owp_value (.pointer (some ⟨b, 0, none⟩)) (w' := W) (by clear hdep; go_simp) ⟨by simp [hl], ⟨getD_keep hpr.1, getD_keep hpr.2.1, getD_keep hpr.2.2⟩, hW, hF.putK 7 87 _ (Nat.le_of_ble_eq_true rfl) rfl rfl⟩
          | 8, ho, hn =>
            simp only [List.getElem?_toArray, List.getElem?_cons_zero, List.getElem?_cons_succ, Option.some.injEq] at ho
            subst ho
            refine ⟨wanted_of (j := 4) (s := 84) (b := false) rfl rfl rfl (hF.slotK (i := 4) (s := 84) (v := .bool false) rfl (hdep ⟨4, .guard⟩ (by simp) rfl) rfl), ?_⟩
            have h87 := hF.slotK (i := 7) (s := 87) (v := .pointer (some ⟨b, 0, none⟩)) rfl (hdep ⟨7, .data⟩ (by simp) rfl) rfl
            exact owp_value (.pointer (some ⟨p2, 0, none⟩)) (w' := W) (by clear hdep; go_simp) ⟨by simp [hl], ⟨getD_keep hpr.1, getD_keep hpr.2.1, getD_keep hpr.2.2⟩, hW, hF.putK 8 88 _ (Nat.le_of_ble_eq_true rfl) rfl rfl⟩
          | 9, ho, hn =>
            simp only [List.getElem?_toArray, List.getElem?_cons_zero, List.getElem?_cons_succ, Option.some.injEq] at ho
            subst ho
            refine ⟨wanted_of (j := 4) (s := 84) (b := false) rfl rfl rfl (hF.slotK (i := 4) (s := 84) (v := .bool false) rfl (hdep ⟨4, .guard⟩ (by simp) rfl) rfl), ?_⟩
            have h88 := hF.slotK (i := 8) (s := 88) (v := .pointer (some ⟨p2, 0, none⟩)) rfl (hdep ⟨8, .data⟩ (by simp) rfl) rfl
            obtain ⟨Fx, hpx, _⟩ := (HP2.out.step hW).left
            refine owp_call (fn := 11) (args := #[.pointer (some ⟨p2, 0, none⟩)]) (by clear hdep; go_simp) ?_
            refine (pw_now hpx).mono ?_
            rintro e w' ⟨rfl, hb⟩
            exact ⟨_, rfl, by simp [hl], ⟨getD_keep hpr.1, getD_keep hpr.2.1, getD_keep hpr.2.2⟩, hW.trans (hb.mono hW.size), hF.putK 9 89 _ (Nat.le_of_ble_eq_true rfl) rfl rfl⟩
          | 10, ho, hn =>
            simp only [List.getElem?_toArray, List.getElem?_cons_zero, List.getElem?_cons_succ, Option.some.injEq] at ho
            subst ho
            refine ⟨wanted_of (j := 4) (s := 84) (b := false) rfl rfl rfl (hF.slotK (i := 4) (s := 84) (v := .bool false) rfl (hdep ⟨4, .guard⟩ (by simp) rfl) rfl), ?_⟩
            have h9 : a.tmps[9]?.getD undef = .pointer (some ⟨b, 0, none⟩) := hF.baseK 9 rfl rfl
            exact owp_value (.pointer (some ⟨b, 0, none⟩)) (w' := W) (by clear hdep; go_simp) ⟨by simp [hl], ⟨getD_keep hpr.1, getD_keep hpr.2.1, getD_keep hpr.2.2⟩, hW, hF.putK 10 90 _ (Nat.le_of_ble_eq_true rfl) rfl rfl⟩
          | 11, ho, hn =>
            simp only [List.getElem?_toArray, List.getElem?_cons_zero, List.getElem?_cons_succ, Option.some.injEq] at ho
            subst ho
            refine ⟨wanted_of (j := 4) (s := 84) (b := false) rfl rfl rfl (hF.slotK (i := 4) (s := 84) (v := .bool false) rfl (hdep ⟨4, .guard⟩ (by simp) rfl) rfl), ?_⟩
            have h90 := hF.slotK (i := 10) (s := 90) (v := .pointer (some ⟨b, 0, none⟩)) rfl (hdep ⟨10, .data⟩ (by simp) rfl) rfl
            exact owp_value (.pointer (some ⟨b, 0, none⟩)) (w' := W) (by clear hdep; go_simp) ⟨by simp [hl], ⟨getD_keep hpr.1, getD_keep hpr.2.1, getD_keep hpr.2.2⟩, hW, hF.putK 11 91 _ (Nat.le_of_ble_eq_true rfl) rfl rfl⟩
          | 12, ho, hn =>
            simp only [List.getElem?_toArray, List.getElem?_cons_zero, List.getElem?_cons_succ, Option.some.injEq] at ho
            subst ho
            refine ⟨wanted_of (j := 4) (s := 84) (b := false) rfl rfl rfl (hF.slotK (i := 4) (s := 84) (v := .bool false) rfl (hdep ⟨4, .guard⟩ (by simp) rfl) rfl), ?_⟩
            have h91 := hF.slotK (i := 11) (s := 91) (v := .pointer (some ⟨b, 0, none⟩)) rfl (hdep ⟨11, .data⟩ (by simp) rfl) rfl
            exact owp_value (.pointer (some ⟨b, 1, none⟩)) (w' := W) (by clear hdep; go_simp) ⟨by simp [hl], ⟨getD_keep hpr.1, getD_keep hpr.2.1, getD_keep hpr.2.2⟩, hW, hF.putK 12 92 _ (Nat.le_of_ble_eq_true rfl) rfl rfl⟩
          | 13, ho, hn =>
            simp only [List.getElem?_toArray, List.getElem?_cons_zero, List.getElem?_cons_succ, Option.some.injEq] at ho
            subst ho
            refine ⟨wanted_of (j := 4) (s := 84) (b := false) rfl rfl rfl (hF.slotK (i := 4) (s := 84) (v := .bool false) rfl (hdep ⟨4, .guard⟩ (by simp) rfl) rfl), ?_⟩
            have h92 := hF.slotK (i := 12) (s := 92) (v := .pointer (some ⟨b, 1, none⟩)) rfl (hdep ⟨12, .data⟩ (by simp) rfl) rfl
            exact owp_value (.pointer (some ⟨q2, 0, none⟩)) (w' := W) (by clear hdep; go_simp) ⟨by simp [hl], ⟨getD_keep hpr.1, getD_keep hpr.2.1, getD_keep hpr.2.2⟩, hW, hF.putK 13 93 _ (Nat.le_of_ble_eq_true rfl) rfl rfl⟩
          | 14, ho, hn =>
            simp only [List.getElem?_toArray, List.getElem?_cons_zero, List.getElem?_cons_succ, Option.some.injEq] at ho
            subst ho
            refine ⟨wanted_of (j := 4) (s := 84) (b := false) rfl rfl rfl (hF.slotK (i := 4) (s := 84) (v := .bool false) rfl (hdep ⟨4, .guard⟩ (by simp) rfl) rfl), ?_⟩
            have h93 := hF.slotK (i := 13) (s := 93) (v := .pointer (some ⟨q2, 0, none⟩)) rfl (hdep ⟨13, .data⟩ (by simp) rfl) rfl
            exact owp_value (.pointer (some ⟨q2, 0, none⟩)) (w' := W) (by clear hdep; go_simp) ⟨by simp [hl], ⟨getD_keep hpr.1, getD_keep hpr.2.1, getD_keep hpr.2.2⟩, hW, hF.putK 14 94 _ (Nat.le_of_ble_eq_true rfl) rfl rfl⟩
          | 15, ho, hn =>
            simp only [List.getElem?_toArray, List.getElem?_cons_zero, List.getElem?_cons_succ, Option.some.injEq] at ho
            subst ho
            refine ⟨wanted_of (j := 4) (s := 84) (b := false) rfl rfl rfl (hF.slotK (i := 4) (s := 84) (v := .bool false) rfl (hdep ⟨4, .guard⟩ (by simp) rfl) rfl), ?_⟩
            have h94 := hF.slotK (i := 14) (s := 94) (v := .pointer (some ⟨q2, 0, none⟩)) rfl (hdep ⟨14, .data⟩ (by simp) rfl) rfl
            exact owp_value (.pointer (some ⟨q2, 2, none⟩)) (w' := W) (by clear hdep; go_simp) ⟨by simp [hl], ⟨getD_keep hpr.1, getD_keep hpr.2.1, getD_keep hpr.2.2⟩, hW, hF.putK 15 95 _ (Nat.le_of_ble_eq_true rfl) rfl rfl⟩
          | 16, ho, hn =>
            simp only [List.getElem?_toArray, List.getElem?_cons_zero, List.getElem?_cons_succ, Option.some.injEq] at ho
            subst ho
            refine ⟨wanted_of (j := 4) (s := 84) (b := false) rfl rfl rfl (hF.slotK (i := 4) (s := 84) (v := .bool false) rfl (hdep ⟨4, .guard⟩ (by simp) rfl) rfl), ?_⟩
            have h95 := hF.slotK (i := 15) (s := 95) (v := .pointer (some ⟨q2, 2, none⟩)) rfl (hdep ⟨15, .data⟩ (by simp) rfl) rfl
            exact owp_value (.int .u64 (s2.now : Int)) (w' := W) (by clear hdep; go_simp) ⟨by simp [hl], ⟨getD_keep hpr.1, getD_keep hpr.2.1, getD_keep hpr.2.2⟩, hW, hF.putK 16 96 _ (Nat.le_of_ble_eq_true rfl) rfl rfl⟩
          | 17, ho, hn =>
            simp only [List.getElem?_toArray, List.getElem?_cons_zero, List.getElem?_cons_succ, Option.some.injEq] at ho
            subst ho
            refine ⟨wanted_of (j := 4) (s := 84) (b := false) rfl rfl rfl (hF.slotK (i := 4) (s := 84) (v := .bool false) rfl (hdep ⟨4, .guard⟩ (by simp) rfl) rfl), ?_⟩
            have h89 := hF.slotK (i := 9) (s := 89) (v := .int .u64 (s2.now : Int)) rfl (hdep ⟨9, .data⟩ (by simp) rfl) rfl
            have h96 := hF.slotK (i := 16) (s := 96) (v := .int .u64 (s2.now : Int)) rfl (hdep ⟨16, .data⟩ (by simp) rfl) rfl
            exact owp_value (.bool false) (w' := W) (by clear hdep; go_simp) ⟨by simp [hl], ⟨getD_keep hpr.1, getD_keep hpr.2.1, getD_keep hpr.2.2⟩, hW, hF.putK 17 97 _ (Nat.le_of_ble_eq_true rfl) rfl rfl⟩
          | 18, ho, hn =>
            simp only [List.getElem?_toArray, List.getElem?_cons_zero, List.getElem?_cons_succ, Option.some.injEq] at ho
            subst ho
            refine ⟨rfl, ?_⟩
            have h84 := hF.slotK (i := 4) (s := 84) (v := .bool false) rfl (hdep ⟨4, .data⟩ (by simp) rfl) rfl
            have h97 := hF.slotK (i := 17) (s := 97) (v := .bool false) rfl (hdep ⟨17, .data⟩ (by simp) rfl) rfl
            exact owp_value (.bool false) (w' := W) (by clear hdep; go_simp) ⟨by simp [hl], ⟨getD_keep hpr.1, getD_keep hpr.2.1, getD_keep hpr.2.2⟩, hW, hF.putK 18 98 _ (Nat.le_of_ble_eq_true rfl) rfl rfl⟩
          | 19, ho, hn =>
            simp only [List.getElem?_toArray, List.getElem?_cons_zero, List.getElem?_cons_succ, Option.some.injEq] at ho
            subst ho
            refine ⟨rfl, ?_⟩
            have h98 := hF.slotK (i := 18) (s := 98) (v := .bool false) rfl (hdep ⟨18, .data⟩ (by simp) rfl) rfl
            exact owp_value (.bool false) (w' := W) (by clear hdep; go_simp) ⟨by simp [hl], ⟨getD_keep hpr.1, getD_keep hpr.2.1, getD_keep hpr.2.2⟩, hW, hF.putK 19 99 _ (Nat.le_of_ble_eq_true rfl) rfl rfl⟩
          | 20, ho, hn =>
            simp only [List.getElem?_toArray, List.getElem?_cons_zero, List.getElem?_cons_succ, Option.some.injEq] at ho
            subst ho
            refine ⟨wanted_of (j := 19) (s := 99) (b := false) rfl rfl rfl (hF.slotK (i := 19) (s := 99) (v := .bool false) rfl (hdep ⟨19, .guard⟩ (by simp) rfl) rfl), ?_⟩
            have h9 : a.tmps[9]?.getD undef = .pointer (some ⟨b, 0, none⟩) := hF.baseK 9 rfl rfl
            exact owp_value (.pointer (some ⟨b, 0, none⟩)) (w' := W) (by clear hdep; go_simp) ⟨by simp [hl], ⟨getD_keep hpr.1, getD_keep hpr.2.1, getD_keep hpr.2.2⟩, hW, hF.putK 20 100 _ (Nat.le_of_ble_eq_true rfl) rfl rfl⟩
          | 21, ho, hn =>
            simp only [List.getElem?_toArray, List.getElem?_cons_zero, List.getElem?_cons_succ, Option.some.injEq] at ho
            subst ho
            refine ⟨wanted_of (j := 19) (s := 99) (b := false) rfl rfl rfl (hF.slotK (i := 19) (s := 99) (v := .bool false) rfl (hdep ⟨19, .guard⟩ (by simp) rfl) rfl), ?_⟩
            have h100 := hF.slotK (i := 20) (s := 100) (v := .pointer (some ⟨b, 0, none⟩)) rfl (hdep ⟨20, .data⟩ (by simp) rfl) rfl
            exact owp_value (.pointer (some ⟨b, 0, none⟩)) (w' := W) (by clear hdep; go_simp) ⟨by simp [hl], ⟨getD_keep hpr.1, getD_keep hpr.2.1, getD_keep hpr.2.2⟩, hW, hF.putK 21 101 _ (Nat.le_of_ble_eq_true rfl) rfl rfl⟩
          | 22, ho, hn =>
            simp only [List.getElem?_toArray, List.getElem?_cons_zero, List.getElem?_cons_succ, Option.some.injEq] at ho
            subst ho
            refine ⟨wanted_of (j := 19) (s := 99) (b := false) rfl rfl rfl (hF.slotK (i := 19) (s := 99) (v := .bool false) rfl (hdep ⟨19, .guard⟩ (by simp) rfl) rfl), ?_⟩
            have h101 := hF.slotK (i := 21) (s := 101) (v := .pointer (some ⟨b, 0, none⟩)) rfl (hdep ⟨21, .data⟩ (by simp) rfl) rfl
            exact owp_value (.pointer (some ⟨b, 0, none⟩)) (w' := W) (by clear hdep; go_simp) ⟨by simp [hl], ⟨getD_keep hpr.1, getD_keep hpr.2.1, getD_keep hpr.2.2⟩, hW, hF.putK 22 102 _ (Nat.le_of_ble_eq_true rfl) rfl rfl⟩
          | 23, ho, hn =>
            simp only [List.getElem?_toArray, List.getElem?_cons_zero, List.getElem?_cons_succ, Option.some.injEq] at ho
            subst ho
            refine ⟨wanted_of (j := 19) (s := 99) (b := false) rfl rfl rfl (hF.slotK (i := 19) (s := 99) (v := .bool false) rfl (hdep ⟨19, .guard⟩ (by simp) rfl) rfl), ?_⟩
            have h102 := hF.slotK (i := 22) (s := 102) (v := .pointer (some ⟨b, 0, none⟩)) rfl (hdep ⟨22, .data⟩ (by simp) rfl) rfl
            exact owp_value (.pointer (some ⟨p2, 0, none⟩)) (w' := W) (by clear hdep; go_simp) ⟨by simp [hl], ⟨getD_keep hpr.1, getD_keep hpr.2.1, getD_keep hpr.2.2⟩, hW, hF.putK 23 103 _ (Nat.le_of_ble_eq_true rfl) rfl rfl⟩
          | 24, ho, hn =>
            simp only [List.getElem?_toArray, List.getElem?_cons_zero, List.getElem?_cons_succ, Option.some.injEq] at ho
            subst ho
            refine ⟨wanted_of (j := 19) (s := 99) (b := false) rfl rfl rfl (hF.slotK (i := 19) (s := 99) (v := .bool false) rfl (hdep ⟨19, .guard⟩ (by simp) rfl) rfl), ?_⟩
            have h103 := hF.slotK (i := 23) (s := 103) (v := .pointer (some ⟨p2, 0, none⟩)) rfl (hdep ⟨23, .data⟩ (by simp) rfl) rfl
            obtain ⟨Fx, hpx, _⟩ := (HP2.out.step hW).left
            refine owp_call (fn := 12) (args := #[.pointer (some ⟨p2, 0, none⟩)]) (by clear hdep; go_simp) ?_
            refine (pw_len hpx HF2.out.ok).mono ?_
            rintro e w' ⟨rfl, hb⟩
            exact ⟨_, rfl, by simp [hl], ⟨getD_keep hpr.1, getD_keep hpr.2.1, getD_keep hpr.2.2⟩, hW.trans (hb.mono hW.size), hF.putK 24 104 _ (Nat.le_of_ble_eq_true rfl) rfl rfl⟩
          | 25, ho, hn =>
            simp only [List.getElem?_toArray, List.getElem?_cons_zero, List.getElem?_cons_succ, Option.some.injEq] at ho
            subst ho
            refine ⟨wanted_of (j := 19) (s := 99) (b := false) rfl rfl rfl (hF.slotK (i := 19) (s := 99) (v := .bool false) rfl (hdep ⟨19, .guard⟩ (by simp) rfl) rfl), ?_⟩
            have h9 : a.tmps[9]?.getD undef = .pointer (some ⟨b, 0, none⟩) := hF.baseK 9 rfl rfl
            exact owp_value (.pointer (some ⟨b, 0, none⟩)) (w' := W) (by clear hdep; go_simp) ⟨by simp [hl], ⟨getD_keep hpr.1, getD_keep hpr.2.1, getD_keep hpr.2.2⟩, hW, hF.putK 25 105 _ (Nat.le_of_ble_eq_true rfl) rfl rfl⟩
          | 26, ho, hn =>
            simp only [List.getElem?_toArray, List.getElem?_cons_zero, List.getElem?_cons_succ, Option.some.injEq] at ho
            subst ho
            refine ⟨wanted_of (j := 19) (s := 99) (b := false) rfl rfl rfl (hF.slotK (i := 19) (s := 99) (v := .bool false) rfl (hdep ⟨19, .guard⟩ (by simp) rfl) rfl), ?_⟩
            have h105 := hF.slotK (i := 25) (s := 105) (v := .pointer (some ⟨b, 0, none⟩)) rfl (hdep ⟨25, .data⟩ (by simp) rfl) rfl
            exact owp_value (.pointer (some ⟨b, 0, none⟩)) (w' := W) (by clear hdep; go_simp) ⟨by simp [hl], ⟨getD_keep hpr.1, getD_keep hpr.2.1, getD_keep hpr.2.2⟩, hW, hF.putK 26 106 _ (Nat.le_of_ble_eq_true rfl) rfl rfl⟩
          | 27, ho, hn =>
            simp only [List.getElem?_toArray, List.getElem?_cons_zero, List.getElem?_cons_succ, Option.some.injEq] at ho
            subst ho
            refine ⟨wanted_of (j := 19) (s := 99) (b := false) rfl rfl rfl (hF.slotK (i := 19) (s := 99) (v := .bool false) rfl (hdep ⟨19, .guard⟩ (by simp) rfl) rfl), ?_⟩
            have h106 := hF.slotK (i := 26) (s := 106) (v := .pointer (some ⟨b, 0, none⟩)) rfl (hdep ⟨26, .data⟩ (by simp) rfl) rfl
            exact owp_value (.pointer (some ⟨b, 1, none⟩)) (w' := W) (by clear hdep; go_simp) ⟨by simp [hl], ⟨getD_keep hpr.1, getD_keep hpr.2.1, getD_keep hpr.2.2⟩, hW, hF.putK 27 107 _ (Nat.le_of_ble_eq_true rfl) rfl rfl⟩
          | 28, ho, hn =>
            simp only [List.getElem?_toArray, List.getElem?_cons_zero, List.getElem?_cons_succ, Option.some.injEq] at ho
            subst ho
            refine ⟨wanted_of (j := 19) (s := 99) (b := false) rfl rfl rfl (hF.slotK (i := 19) (s := 99) (v := .bool false) rfl (hdep ⟨19, .guard⟩ (by simp) rfl) rfl), ?_⟩
            have h107 := hF.slotK (i := 27) (s := 107) (v := .pointer (some ⟨b, 1, none⟩)) rfl (hdep ⟨27, .data⟩ (by simp) rfl) rfl
            exact owp_value (.pointer (some ⟨q2, 0, none⟩)) (w' := W) (by clear hdep; go_simp) ⟨by simp [hl], ⟨getD_keep hpr.1, getD_keep hpr.2.1, getD_keep hpr.2.2⟩, hW, hF.putK 28 108 _ (Nat.le_of_ble_eq_true rfl) rfl rfl⟩
          | 29, ho, hn =>
            simp only [List.getElem?_toArray, List.getElem?_cons_zero, List.getElem?_cons_succ, Option.some.injEq] at ho
            subst ho
            refine ⟨wanted_of (j := 19) (s := 99) (b := false) rfl rfl rfl (hF.slotK (i := 19) (s := 99) (v := .bool false) rfl (hdep ⟨19, .guard⟩ (by simp) rfl) rfl), ?_⟩
            have h108 := hF.slotK (i := 28) (s := 108) (v := .pointer (some ⟨q2, 0, none⟩)) rfl (hdep ⟨28, .data⟩ (by simp) rfl) rfl
            exact owp_value (.pointer (some ⟨q2, 0, none⟩)) (w' := W) (by clear hdep; go_simp) ⟨by simp [hl], ⟨getD_keep hpr.1, getD_keep hpr.2.1, getD_keep hpr.2.2⟩, hW, hF.putK 29 109 _ (Nat.le_of_ble_eq_true rfl) rfl rfl⟩
          | 30, ho, hn =>
            simp only [List.getElem?_toArray, List.getElem?_cons_zero, List.getElem?_cons_succ, Option.some.injEq] at ho
            subst ho
            refine ⟨wanted_of (j := 19) (s := 99) (b := false) rfl rfl rfl (hF.slotK (i := 19) (s := 99) (v := .bool false) rfl (hdep ⟨19, .guard⟩ (by simp) rfl) rfl), ?_⟩
            have h109 := hF.slotK (i := 29) (s := 109) (v := .pointer (some ⟨q2, 0, none⟩)) rfl (hdep ⟨29, .data⟩ (by simp) rfl) rfl
            exact owp_value (.pointer (some ⟨q2, 1, none⟩)) (w' := W) (by clear hdep; go_simp) ⟨by simp [hl], ⟨getD_keep hpr.1, getD_keep hpr.2.1, getD_keep hpr.2.2⟩, hW, hF.putK 30 110 _ (Nat.le_of_ble_eq_true rfl) rfl rfl⟩
          | 31, ho, hn =>
            simp only [List.getElem?_toArray, List.getElem?_cons_zero, List.getElem?_cons_succ, Option.some.injEq] at ho
            subst ho
            refine ⟨wanted_of (j := 19) (s := 99) (b := false) rfl rfl rfl (hF.slotK (i := 19) (s := 99) (v := .bool false) rfl (hdep ⟨19, .guard⟩ (by simp) rfl) rfl), ?_⟩
            have h110 := hF.slotK (i := 30) (s := 110) (v := .pointer (some ⟨q2, 1, none⟩)) rfl (hdep ⟨30, .data⟩ (by simp) rfl) rfl
            exact owp_value (.slice LB s2.l.length ld) (w' := W) (by clear hdep; go_simp) ⟨by simp [hl], ⟨getD_keep hpr.1, getD_keep hpr.2.1, getD_keep hpr.2.2⟩, hW, hF.putK 31 111 _ (Nat.le_of_ble_eq_true rfl) rfl rfl⟩
          | 32, ho, hn =>
            simp only [List.getElem?_toArray, List.getElem?_cons_zero, List.getElem?_cons_succ, Option.some.injEq] at ho
            subst ho
            refine ⟨wanted_of (j := 19) (s := 99) (b := false) rfl rfl rfl (hF.slotK (i := 19) (s := 99) (v := .bool false) rfl (hdep ⟨19, .guard⟩ (by simp) rfl) rfl), ?_⟩
            have h111 := hF.slotK (i := 31) (s := 111) (v := .slice LB s2.l.length ld) rfl (hdep ⟨31, .data⟩ (by simp) rfl) rfl
            exact owp_value (.int .i64 (s2.l.length : Int)) (w' := W) (by clear hdep; go_simp) ⟨by simp [hl], ⟨getD_keep hpr.1, getD_keep hpr.2.1, getD_keep hpr.2.2⟩, hW, hF.putK 32 112 _ (Nat.le_of_ble_eq_true rfl) rfl rfl⟩
          | 33, ho, hn =>
            simp only [List.getElem?_toArray, List.getElem?_cons_zero, List.getElem?_cons_succ, Option.some.injEq] at ho
            subst ho
            refine ⟨wanted_of (j := 19) (s := 99) (b := false) rfl rfl rfl (hF.slotK (i := 19) (s := 99) (v := .bool false) rfl (hdep ⟨19, .guard⟩ (by simp) rfl) rfl), ?_⟩
            have h104 := hF.slotK (i := 24) (s := 104) (v := .int .i64 (s2.l.length : Int)) rfl (hdep ⟨24, .data⟩ (by simp) rfl) rfl
            have h112 := hF.slotK (i := 32) (s := 112) (v := .int .i64 (s2.l.length : Int)) rfl (hdep ⟨32, .data⟩ (by simp) rfl) rfl
            exact owp_value (.bool false) (w' := W) (by clear hdep; go_simp) ⟨by simp [hl], ⟨getD_keep hpr.1, getD_keep hpr.2.1, getD_keep hpr.2.2⟩, hW, hF.putK 33 113 _ (Nat.le_of_ble_eq_true rfl) rfl rfl⟩
          | 34, ho, hn =>
            simp only [List.getElem?_toArray, List.getElem?_cons_zero, List.getElem?_cons_succ, Option.some.injEq] at ho
            subst ho
            refine ⟨rfl, ?_⟩
            have h99 := hF.slotK (i := 19) (s := 99) (v := .bool false) rfl (hdep ⟨19, .data⟩ (by simp) rfl) rfl
            have h113 := hF.slotK (i := 33) (s := 113) (v := .bool false) rfl (hdep ⟨33, .data⟩ (by simp) rfl) rfl
            exact owp_value (.bool false) (w' := W) (by clear hdep; go_simp) ⟨by simp [hl], ⟨getD_keep hpr.1, getD_keep hpr.2.1, getD_keep hpr.2.2⟩, hW, hF.putK 34 114 _ (Nat.le_of_ble_eq_true rfl) rfl rfl⟩
          | i5 + 35, ho, hn => simp at ho
        · clear hF2 hfuel hpre hl hz hn
          intro l a W1 hI hall
          obtain ⟨_, _, hB, hF⟩ := hI
          have hall : ∀ i, i < 35 → l.getD i false = true := hall
          have ha := FrU.allB (K := ([(0, 80), (1, 81), (2, 82), (3, 83), (4, 84), (5, 85), (6, 86), (7, 87), (8, 88), (9, 89), (10, 90), (11, 91), (12, 92), (13, 93), (14, 94), (15, 95), (16, 96), (17, 97), (18, 98), (19, 99), (20, 100), (21, 101), (22, 102), (23, 103), (24, 104), (25, 105), (26, 106), (27, 107), (28, 108), (29, 109), (30, 110), (31, 111), (32, 112), (33, 113), (34, 114)] : List (Nat × Nat))) (V := (fun i => ([.pointer (some ⟨b, 0, none⟩), .agg #[.int .i64 κ, .int .i64 hh, .int .u64 (at_ : Int), .int .u64 (what : Int)], .bool true, .bool false, .bool false, .pointer (some ⟨b, 0, none⟩), .pointer (some ⟨b, 0, none⟩), .pointer (some ⟨b, 0, none⟩), .pointer (some ⟨p2, 0, none⟩), .int .u64 (s2.now : Int), .pointer (some ⟨b, 0, none⟩), .pointer (some ⟨b, 0, none⟩), .pointer (some ⟨b, 1, none⟩), .pointer (some ⟨q2, 0, none⟩), .pointer (some ⟨q2, 0, none⟩), .pointer (some ⟨q2, 2, none⟩), .int .u64 (s2.now : Int), .bool false, .bool false, .bool false, .pointer (some ⟨b, 0, none⟩), .pointer (some ⟨b, 0, none⟩), .pointer (some ⟨b, 0, none⟩), .pointer (some ⟨p2, 0, none⟩), .int .i64 (s2.l.length : Int), .pointer (some ⟨b, 0, none⟩), .pointer (some ⟨b, 0, none⟩), .pointer (some ⟨b, 1, none⟩), .pointer (some ⟨q2, 0, none⟩), .pointer (some ⟨q2, 0, none⟩), .pointer (some ⟨q2, 1, none⟩), .slice LB s2.l.length ld, .int .i64 (s2.l.length : Int), .bool false, .bool false][i]?).getD undef)) (BL := ([(0, 80, .pointer (some ⟨b, 0, none⟩)), (1, 81, .agg #[.int .i64 κ, .int .i64 hh, .int .u64 (at_ : Int), .int .u64 (what : Int)]), (2, 82, .bool true), (3, 83, .bool false), (4, 84, .bool false), (5, 85, .pointer (some ⟨b, 0, none⟩)), (6, 86, .pointer (some ⟨b, 0, none⟩)), (7, 87, .pointer (some ⟨b, 0, none⟩)), (8, 88, .pointer (some ⟨p2, 0, none⟩)), (9, 89, .int .u64 (s2.now : Int)), (10, 90, .pointer (some ⟨b, 0, none⟩)), (11, 91, .pointer (some ⟨b, 0, none⟩)), (12, 92, .pointer (some ⟨b, 1, none⟩)), (13, 93, .pointer (some ⟨q2, 0, none⟩)), (14, 94, .pointer (some ⟨q2, 0, none⟩)), (15, 95, .pointer (some ⟨q2, 2, none⟩)), (16, 96, .int .u64 (s2.now : Int)), (17, 97, .bool false), (18, 98, .bool false), (19, 99, .bool false), (20, 100, .pointer (some ⟨b, 0, none⟩)), (21, 101, .pointer (some ⟨b, 0, none⟩)), (22, 102, .pointer (some ⟨b, 0, none⟩)), (23, 103, .pointer (some ⟨p2, 0, none⟩)), (24, 104, .int .i64 (s2.l.length : Int)), (25, 105, .pointer (some ⟨b, 0, none⟩)), (26, 106, .pointer (some ⟨b, 0, none⟩)), (27, 107, .pointer (some ⟨b, 1, none⟩)), (28, 108, .pointer (some ⟨q2, 0, none⟩)), (29, 109, .pointer (some ⟨q2, 0, none⟩)), (30, 110, .pointer (some ⟨q2, 1, none⟩)), (31, 111, .slice LB s2.l.length ld), (32, 112, .int .i64 (s2.l.length : Int)), (33, 113, .bool false), (34, 114, .bool false)] : List (Nat × Nat × Value))) hF rfl (n := 35) hall rfl
          subst ha
          have HP3 := Lib.hid (HP2.out.step hB)
          clear hF hall hB HP2 HNC HLC
          refine hKc _ _ ?_
          simp only [setAll, List.setIfInBounds_toArray, List.set_cons_succ, List.set_cons_zero]
          have x2 : W1.cell? ⟨b, 2, none⟩ = some (.slice E2 hs2.length hc2) := blk_cell HP3.out.blk 2
          go_wp2_with fail
          clear x2
          go_loopw [120] (fun vk wz => ∃ k : Nat, vk = .int .i64 (k : Int) ∧ k ≤ hs2.length ∧ PL w (fun _ => False) wz b p2 q2 E2 hc2 hs2 tk2 s2 s2) (fun vk _ => hs2.length - (intOf vk).toNat)
          case atStart => exact ⟨0, rfl, Nat.zero_le _, HP3.out⟩
          case round =>
            obtain ⟨k, rfl, hk0, hP5⟩ := hrel
            have HP5 := Lib.hid hP5
            clear hP5 HP3
            by_cases hkl : k < hs2.length
            · obtain ⟨⟨x, y⟩, hxk⟩ : ∃ z, hs2[k]? = some z := ⟨_, List.getElem?_eq_getElem hkl⟩
              obtain ⟨dv, db, hdv⟩ := due_form s2 (x : Int) y
              have HDV := Lib.hid hdv
              obtain ⟨g, hE, _, hgl, hgc, _⟩ := HP5.out.row.lies (by omega)
              have g0 : wr.cell? ⟨g, k * 2, none⟩ = some (.int .i64 (x : Int)) := by rw [hgc (k * 2) (by omega)]; exact congrArg some (rwc_at (enc := hnv) (j := 0) hxk (by omega))
              have g1 : wr.cell? ⟨g, k * 2 + 1, none⟩ = some (.int .u64 (y : Int)) := by rw [hgc (k * 2 + 1) (by omega)]; exact congrArg some (rwc_at (enc := hnv) (j := 1) hxk (by omega))
              have k0 : (0 : Int) ≤ (k : Int) := by omega
              have k1 : (k : Int) < (hs2.length : Int) := by omega
              have k2 : ((k : Int)).toNat = k := by omega
              have zk : IntKind.i64.wrap ((k : Int) + 1) = (k : Int) + 1 := by rw [IntKind.wrap_i64]; have := HL2.out; omega
              have HP6 := Lib.hid (HP5.out.box (.cells #[.int .i64 (x : Int), .int .u64 (y : Int)] 46))
              have HH6 : Hid ((wr.alloc (.cells #[.int .i64 (x : Int), .int .u64 (y : Int)] 46)).heap[wr.heap.size]? = some (.cells #[.int .i64 (x : Int), .int .u64 (y : Int)] 46 (0, 0))) := Lib.hid (heap_alloc_new wr _)
              clear hdv hgl hgc hxk HP5
              subst hE
              go_upto_region 18 with fail
              change Code.wp _ _ _ _ (wr.alloc (.cells #[.int .i64 (x : Int), .int .u64 (y : Int)] 46))
              clear g0 g1
              obtain ⟨hb, hhb⟩ : ∃ z, z = wr.heap.size := ⟨_, rfl⟩
              rw [← hhb] at HP6 HH6 ⊢
              clear hhb
              generalize wr.alloc (.cells #[.int .i64 (x : Int), .int .u64 (y : Int)] 46) = v6 at *
              have x0 : ∀ W : Stay v6, W.w.cell? ⟨b, 0, none⟩ = some (.pointer (some ⟨p2, 0, none⟩)) := fun W => Stay.cell (blk_cell HP6.out.blk 0) W
              have HXX := Lib.hid (stay_hp HH6.out)
              have HDU : Hid (∀ W : Stay v6, Calls Try.prog 13 #[.pointer (some ⟨p2, 0, none⟩), .agg #[.int .i64 (x : Int), .int .u64 (y : Int)]] W.w fun e w' => e = .returned (.tuple #[.int .u64 (dv : Int), .bool db]) ∧ Below W.w.heap.size W.w w') := Lib.hid fun W => by
                obtain ⟨Fx, hpx, _⟩ := (HP6.out.step W.below).left
                have h := pw_due hpx HF2.out (x : Int) y
                rw [HDV.out] at h
                exact h
              refine wp_region_stay (by kernel_rfl) (by kernel_rfl) ?_
              repeat (first
                | (refine qh_row rfl 46 (.tmp 13) rfl hb rfl 46 #[.int .i64 (x : Int), .int .u64 (y : Int)] (0, 0) _ HXX.out Try.underlying46 rfl (by kernel_rfl) ?_
                   simp only [Act.put, List.setIfInBounds_toArray, List.set_cons_zero, List.set_cons_succ])
                | go_big_quiet_step (first | (go_at_call 13; with_reducible exact Calls.stay _ (HDU.out _))))
              refine wpQuiet_nil ?_
              intro w' hw'
              obtain ⟨W, rfl⟩ := hw'
              have AP := Lib.hid (HP6.out.step W.below)
              have AH : Hid (W.w.heap[hb]? = some (.cells #[.int .i64 (x : Int), .int .u64 (y : Int)] 46 (0, 0))) := Lib.hid ((W.below.block _ (lt_heap HH6.out)).trans HH6.out)
              clear x0 HXX HDU HP6 HH6
              generalize W.w = uA at *
              go_upto_region 19 with fail
              have x0 : ∀ W : Stay uA, W.w.cell? ⟨b, 1, none⟩ = some (.pointer (some ⟨q2, 0, none⟩)) := fun W => Stay.cell (blk_cell AP.out.blk 1) W
              have HXX := Lib.hid (stay_hp AH.out)
              have HDU : Hid (∀ W : Stay uA, Calls Try.prog 14 #[.pointer (some ⟨q2, 0, none⟩), .agg #[.int .i64 (x : Int), .int .u64 (y : Int)]] W.w fun e w' => e = .returned (.tuple #[.int .u64 (dv : Int), .bool db]) ∧ Below W.w.heap.size W.w w') := Lib.hid fun W => by
                obtain ⟨Fx, hpx, _⟩ := (AP.out.step W.below).right
                have h := dw_due hpx HF2.out (x : Int) y
                rw [HDV.out] at h
                exact h
              refine wp_region_stay (by kernel_rfl) (by kernel_rfl) ?_
              repeat (first
                | (refine qh_row rfl 46 (.tmp 13) rfl hb rfl 46 #[.int .i64 (x : Int), .int .u64 (y : Int)] (0, 0) _ HXX.out Try.underlying46 rfl (by kernel_rfl) ?_
                   simp only [Act.put, List.setIfInBounds_toArray, List.set_cons_zero, List.set_cons_succ])
                | go_big_quiet_step (first | (go_at_call 14; with_reducible exact Calls.stay _ (HDU.out _))))
              refine wpQuiet_nil ?_
              intro w' hw'
              obtain ⟨W, rfl⟩ := hw'
              have BP := Lib.hid (AP.out.step W.below)
              have BH : Hid (W.w.heap[hb]? = some (.cells #[.int .i64 (x : Int), .int .u64 (y : Int)] 46 (0, 0))) := Lib.hid ((W.below.block _ (lt_heap AH.out)).trans AH.out)
              clear x0 HXX HDU AP AH
              generalize W.w = uB at *
              go_wp2_with fail
              go_roundw
              case rel => exact ⟨k + 1, by go_num, by omega, BP.out.less (Y := fun _ => False) fun _ h => h.elim⟩
              case measure => simp [intOf]; omega
            · obtain rfl : k = hs2.length := by omega
              have k1 : ¬ (hs2.length : Int) < (hs2.length : Int) := by omega
              go_wp2_with fail
              go_roundw
              case rel => exact ⟨j + 1, p2, q2, E2, hc2, hs2, tk2, s2, by go_num, by omega, HP5.out, HF2.out, HL2.out, HT2.out⟩
              case measure => simp [intOf]; omega
    · obtain rfl : j = m := by omega
      have i1 : ¬ (j : Int) < (j : Int) := by omega
      go_wp2_with (first
        | (go_at_call 6
           refine (HKN.out _).mono ?_
           rintro e uz ⟨rfl, hbz⟩
           have HBZ := Lib.hid hbz
           clear hbz))
      go_ret
      exact ⟨rfl, HP.out.below.trans (HBZ.out.mono HP.out.below.size)⟩
end Go.Proofs.Ytkmakdhlaenaoaa
