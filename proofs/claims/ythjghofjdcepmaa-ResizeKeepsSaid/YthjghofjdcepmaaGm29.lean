import Derived.Test.YthjghofjdcepmaaGm28
import Derived.Test.YthjghofjdcepmaaGm20
/- Stage 14: the landed growing table: Copy, New. -/
namespace Go.Proofs.Ythjghofjdcepmaa
set_option maxRecDepth 100000
open Go.RowKit Go.Shelf
/-- Entries told anew, none of which has come. -/
theorem FrU.swapC {a0 a : Act} {K : List (Nat × Nat)} {V V' : Nat → Value} {l : Array Bool} (h : FrU a0 (kv K V) l a) (hV : ∀ k, l.getD k false = true → V k = V' k) : FrU a0 (kv K V') l a := by
  obtain ⟨h1, h2, h3, h4⟩ := h
  refine ⟨h1, h2, fun x hx hl => ?_, fun s hs => h4 s fun x hx => ?_⟩
  · obtain ⟨y, hy, rfl⟩ := List.mem_map.1 hx
    show a.tmps[y.2]?.getD undef = V' y.1
    rw [← hV y.1 hl]
    exact h3 _ (List.mem_map.2 ⟨y, hy, rfl⟩) hl
  · obtain ⟨y, hy, rfl⟩ := List.mem_map.1 hx
    exact hs (y.1, y.2, V' y.1) (List.mem_map.2 ⟨y, hy, rfl⟩)
/-- A copy of the next table, or none. -/
def NxT (s : Gr) (W : World) (q : Option Addr) (F : Nat → Prop) : Prop := (s.mv = true → ∃ b, q = some ⟨b, 0, none⟩ ∧ PT0 W b s.next F) ∧ (s.mv = false → q = none ∧ ∀ k, ¬ F k)
theorem NxT.step {s : Gr} {W W' : World} {q : Option Addr} {F : Nat → Prop} (h : NxT s W q F) (hb : Below W.heap.size W W') : NxT s W' q F := ⟨fun e => by
  obtain ⟨b, h1, h2⟩ := h.1 e
  exact ⟨b, h1, pt0_step h2 hb⟩, h.2⟩
theorem NxT.old {s : Gr} {W : World} {q : Option Addr} {F : Nat → Prop} (h : NxT s W q F) : ∀ k, F k → k < W.heap.size := fun k hk => by
  cases hm : s.mv with
  | true =>
    obtain ⟨b, _, h2⟩ := h.1 hm
    exact footPT0.old h2 k hk
  | false => exact absurd hk ((h.2 hm).2 k)
def nqB : Option Addr → Nat
  | some a => a.block
  | none => 0
/-- What Copy's region has laid so far. -/
structure CpI (s : Gr) (u : World) (l : Array Bool) (W : World) (b1 : Nat) (F1 : Nat → Prop) (q2 : Option Addr) (F2 : Nat → Prop) (z : Nat) : Prop where
  one : l.getD 8 false = true → PT0 W b1 s.now F1 ∧ ∀ k, F1 k → u.heap.size ≤ k
  two : l.getD 13 false = true → NxT s W q2 F2 ∧ ∀ k, F2 k → u.heap.size ≤ k
  both : l.getD 8 false = true → l.getD 13 false = true → ∀ k, F1 k → ¬ F2 k
  box : l.getD 19 false = true → u.heap.size ≤ z ∧ W.heap[z]? = some (.cells #[.int .i64 (s.most : Int), .pointer (some ⟨b1, 0, none⟩), .pointer q2, .int .i64 (s.at_ : Int)] 51 (0, 0)) ∧ ¬ F1 z ∧ ¬ F2 z
  d18 : l.getD 18 false = true → l.getD 8 false = true ∧ l.getD 13 false = true
  d19 : l.getD 19 false = true → l.getD 18 false = true
  d20 : l.getD 20 false = true → l.getD 19 false = true
section
variable {s : Gr} {u : World} {l : Array Bool} {W W' : World} {b1 : Nat} {F1 : Nat → Prop} {q2 : Option Addr} {F2 : Nat → Prop} {z : Nat}
theorem CpI.start (s : Gr) (u : World) (n : Nat) (z : Nat) : CpI s u (Array.replicate n false) u.drew 0 (fun _ => False) none (fun _ => False) z :=
  ⟨fun h => (by rw [getD_none] at h; cases h), fun h => (by rw [getD_none] at h; cases h), fun h => (by rw [getD_none] at h; cases h), fun h => (by rw [getD_none] at h; cases h), fun h => (by rw [getD_none] at h; cases h), fun h => (by rw [getD_none] at h; cases h), fun h => (by rw [getD_none] at h; cases h)⟩
theorem CpI.plain (h : CpI s u l W b1 F1 q2 F2 z) {k : Nat} (hk : k ≠ 8 ∧ k ≠ 13 ∧ k ≠ 18 ∧ k ≠ 19 ∧ k ≠ 20) : CpI s u (l.setIfInBounds k true) W b1 F1 q2 F2 z := by
  have e : ∀ i, (i = 8 ∨ i = 13 ∨ i = 18 ∨ i = 19 ∨ i = 20) → (l.setIfInBounds k true).getD i false = l.getD i false := fun i hi => by rw [getD_set (by omega)]
  exact ⟨by rw [e 8 (by omega)]; exact h.one, by rw [e 13 (by omega)]; exact h.two, by rw [e 8 (by omega), e 13 (by omega)]; exact h.both, by rw [e 19 (by omega)]; exact h.box, by rw [e 18 (by omega), e 8 (by omega), e 13 (by omega)]; exact h.d18, by rw [e 19 (by omega), e 18 (by omega)]; exact h.d19, by rw [e 20 (by omega), e 19 (by omega)]; exact h.d20⟩
theorem CpI.no19 (h : CpI s u l W b1 F1 q2 F2 z) (hn : l.getD 19 true = false) {i : Nat} (hi : i = 19 ∨ i = 20) : ¬ l.getD i false = true := fun q => by
  have e := getD_tf hn
  rcases hi with rfl | rfl
  · rw [e] at q; cases q
  · have := h.d20 q
    rw [e] at this; cases this
theorem CpI.no18 (h : CpI s u l W b1 F1 q2 F2 z) {j : Nat} (hj : j = 8 ∨ j = 13) (hn : l.getD j true = false) {i : Nat} (hi : i = 18 ∨ i = 19 ∨ i = 20) : ¬ l.getD i false = true := fun q => by
  have e := getD_tf hn
  have h18 : l.getD 18 false = true := by
    rcases hi with rfl | rfl | rfl
    · exact q
    · exact h.d19 q
    · exact h.d19 (h.d20 q)
  have h2 := h.d18 h18
  rcases hj with rfl | rfl
  · rw [e] at h2; cases h2.1
  · rw [e] at h2; cases h2.2
theorem CpI.c8 (h : CpI s u l W b1 F1 q2 F2 z) (hn : l.getD 8 true = false) (hW : Below u.heap.size u W) (hb : Below W.heap.size W W') {c : Nat} {G : Nat → Prop} (hp : PT0 W' c s.now G) (hnew : ∀ k, G k → W.heap.size ≤ k) : CpI s u (l.setIfInBounds 8 true) W' c G q2 F2 z := by
  have e : ∀ i, i ≠ 8 → (l.setIfInBounds 8 true).getD i false = l.getD i false := fun i hi => by rw [getD_set (by omega)]
  have n18 := fun {i : Nat} hi => h.no18 (.inl rfl) hn (i := i) hi
  refine ⟨fun _ => ⟨hp, fun k hk => Nat.le_trans hW.size (hnew k hk)⟩, fun q => ?_, fun _ q k hk hk2 => ?_, fun q => ?_, fun q => ?_, fun q => ?_, fun q => ?_⟩
  · rw [e 13 (by decide)] at q
    exact ⟨(h.two q).1.step hb, (h.two q).2⟩
  · rw [e 13 (by decide)] at q
    have h1 := hnew k hk
    have h2 := (h.two q).1.old k hk2
    omega
  · rw [e 19 (by decide)] at q
    exact absurd q (n18 (.inr (.inl rfl)))
  · rw [e 18 (by decide)] at q
    exact absurd q (n18 (.inl rfl))
  · rw [e 19 (by decide)] at q
    exact absurd q (n18 (.inr (.inl rfl)))
  · rw [e 20 (by decide)] at q
    exact absurd q (n18 (.inr (.inr rfl)))
theorem CpI.c13 (h : CpI s u l W b1 F1 q2 F2 z) (hn : l.getD 13 true = false) (hW : Below u.heap.size u W) (hb : Below W.heap.size W W') {c : Option Addr} {G : Nat → Prop} (hp : NxT s W' c G) (hnew : ∀ k, G k → W.heap.size ≤ k) : CpI s u (l.setIfInBounds 13 true) W' b1 F1 c G z := by
  have e : ∀ i, i ≠ 13 → (l.setIfInBounds 13 true).getD i false = l.getD i false := fun i hi => by rw [getD_set (by omega)]
  have n18 := fun {i : Nat} hi => h.no18 (.inr rfl) hn (i := i) hi
  refine ⟨fun q => ?_, fun _ => ⟨hp, fun k hk => Nat.le_trans hW.size (hnew k hk)⟩, fun q _ k hk hk2 => ?_, fun q => ?_, fun q => ?_, fun q => ?_, fun q => ?_⟩
  · rw [e 8 (by decide)] at q
    exact ⟨pt0_step (h.one q).1 hb, (h.one q).2⟩
  · rw [e 8 (by decide)] at q
    have h1 := hnew k hk2
    have h2 := footPT0.old (h.one q).1 k hk
    omega
  · rw [e 19 (by decide)] at q
    exact absurd q (n18 (.inr (.inl rfl)))
  · rw [e 18 (by decide)] at q
    exact absurd q (n18 (.inl rfl))
  · rw [e 19 (by decide)] at q
    exact absurd q (n18 (.inr (.inl rfl)))
  · rw [e 20 (by decide)] at q
    exact absurd q (n18 (.inr (.inr rfl)))
theorem CpI.c18 (h : CpI s u l W b1 F1 q2 F2 z) (h8 : l.getD 8 false = true) (h13 : l.getD 13 false = true) : CpI s u (l.setIfInBounds 18 true) W b1 F1 q2 F2 z := by
  have e : ∀ i, i ≠ 18 → (l.setIfInBounds 18 true).getD i false = l.getD i false := fun i hi => by rw [getD_set (by omega)]
  refine ⟨by rw [e 8 (by decide)]; exact h.one, by rw [e 13 (by decide)]; exact h.two, by rw [e 8 (by decide), e 13 (by decide)]; exact h.both, by rw [e 19 (by decide)]; exact h.box, fun _ => by rw [e 8 (by decide), e 13 (by decide)]; exact ⟨h8, h13⟩, fun q => ?_, by rw [e 20 (by decide), e 19 (by decide)]; exact h.d20⟩
  rw [e 19 (by decide)] at q
  have h18 := h.d19 q
  rw [Array.getD_eq_getD_getElem?] at h18 ⊢
  rw [Array.getElem?_setIfInBounds]
  split
  · rename_i e1
    split
    · rfl
    · rename_i e2
      rw [Array.getElem?_eq_none (by omega)] at h18
      exact h18
  · exact h18
theorem CpI.c19 (h : CpI s u l W b1 F1 q2 F2 z) (hn : l.getD 19 true = false) (hW : Below u.heap.size u W) (h18 : l.getD 18 false = true) : CpI s u (l.setIfInBounds 19 true) (W.alloc (.cells #[.int .i64 (s.most : Int), .pointer (some ⟨b1, 0, none⟩), .pointer q2, .int .i64 (s.at_ : Int)] 51)) b1 F1 q2 F2 W.heap.size := by
  have e : ∀ i, i ≠ 19 → (l.setIfInBounds 19 true).getD i false = l.getD i false := fun i hi => by rw [getD_set (by omega)]
  have hb := below_alloc W (.cells #[.int .i64 (s.most : Int), .pointer (some ⟨b1, 0, none⟩), .pointer q2, .int .i64 (s.at_ : Int)] 51)
  obtain ⟨h8, h13⟩ := h.d18 h18
  refine ⟨fun _ => ⟨pt0_step (h.one h8).1 hb, (h.one h8).2⟩, fun _ => ⟨(h.two h13).1.step hb, (h.two h13).2⟩, fun _ _ => h.both h8 h13, fun _ => ⟨hW.size, heap_alloc_new W _, fun q => ?_, fun q => ?_⟩, fun _ => by rw [e 8 (by decide), e 13 (by decide)]; exact ⟨h8, h13⟩, fun _ => by rw [e 18 (by decide)]; exact h18, fun _ => getD_set_self hn⟩
  · have := footPT0.old (h.one h8).1 _ q
    omega
  · have := (h.two h13).1.old _ q
    omega
theorem CpI.c20 (h : CpI s u l W b1 F1 q2 F2 z) (h19 : l.getD 19 false = true) : CpI s u (l.setIfInBounds 20 true) W b1 F1 q2 F2 z := by
  have e : ∀ i, i ≠ 20 → (l.setIfInBounds 20 true).getD i false = l.getD i false := fun i hi => by rw [getD_set (by omega)]
  exact ⟨by rw [e 8 (by decide)]; exact h.one, by rw [e 13 (by decide)]; exact h.two, by rw [e 8 (by decide), e 13 (by decide)]; exact h.both, by rw [e 19 (by decide)]; exact h.box, by rw [e 18 (by decide), e 8 (by decide), e 13 (by decide)]; exact h.d18, by rw [e 19 (by decide), e 18 (by decide)]; exact h.d19, fun _ => by rw [e 19 (by decide)]; exact h19⟩
end
theorem gcopy_un {pa : Option Addr} {w : World} (h : UnG pa w) : Calls Try.prog 16 #[.pointer pa] w (ret (.pointer none) w) := by
  have HC := Lib.hid (gmade_un h)
  clear h
  go_enter Try.func16, Try.ntmps16
  go_wp2_with (first
    | (go_at_call 28
       refine HC.out.mono ?_
       rintro e u1 ⟨rfl, hb⟩
       have HB := Lib.hid hb
       clear hb))
  go_ret
  exact ⟨rfl, HB.out⟩
section
variable {w : World} {p pn px : Nat} {s : Gr} {F Fn Fx : Nat → Prop}
set_option maxHeartbeats 4000000 in
theorem gcopy_any (h : PGY w p pn px s F Fn Fx) (hs : s.Ok) : Calls Try.prog 16 #[.pointer (some ⟨p, 0, none⟩)] w fun e w' => ∃ b F', e = .returned (.pointer (some ⟨b, 0, none⟩)) ∧ PG0 w' b s F' ∧ (∀ k, F' k → w.heap.size ≤ k) ∧ Below w.heap.size w w' := by
  have HMD := Lib.hid h.made
  have HY := Lib.hid h
  have HMY := Lib.hid h.may
  obtain ⟨nq, hnq⟩ : ∃ q, q = (if s.mv then some (⟨px, 0, none⟩ : Addr) else none) := ⟨_, rfl⟩
  have HQ0 : Hid (w.heap[p]? = some (.cells #[.int .i64 (s.most : Int), .pointer (some ⟨pn, 0, none⟩), .pointer nq, .int .i64 (s.at_ : Int)] 51 (0, 0))) := Lib.hid (by rw [hnq]; exact h.blk)
  have HC1' : Hid (∀ W, Below w.heap.size w W → Calls Try.prog 47 #[.pointer (some ⟨pn, 0, none⟩)] W fun e w' => ∃ b G, e = .returned (.pointer (some ⟨b, 0, none⟩)) ∧ PT0 w' b s.now G ∧ (∀ k, G k → W.heap.size ≤ k) ∧ Below W.heap.size W w') := Lib.hid fun W k => tabP.copy (pt0_step h.now k) hs.now
  have HC2' : Hid (∀ W, Below w.heap.size w W → Calls Try.prog 47 #[.pointer nq] W fun e w' => ∃ q G, e = .returned (.pointer q) ∧ NxT s w' q G ∧ (∀ k, G k → W.heap.size ≤ k) ∧ Below W.heap.size W w') := Lib.hid fun W k => by
    cases hm : s.mv with
    | true =>
      rw [hnq, hm, if_pos rfl]
      refine (tabP.copy (pt0_step (h.next hm) k) (hs.next hm)).mono ?_
      rintro e w' ⟨b, G, rfl, h1, h2, h3⟩
      exact ⟨some ⟨b, 0, none⟩, G, rfl, ⟨fun _ => ⟨b, rfl, h1⟩, fun e => (by rw [hm] at e; cases e)⟩, h2, h3⟩
    | false =>
      rw [hnq, hm, if_neg Bool.false_ne_true]
      refine (tcopy_un (tmade_un (.inl rfl))).mono ?_
      rintro e w' ⟨rfl, hb⟩
      exact ⟨none, fun _ => False, rfl, ⟨fun e => (by rw [hm] at e; cases e), fun _ => ⟨rfl, fun _ q => q⟩⟩, fun _ q => q.elim, hb⟩
  clear h hs hnq
  go_enter Try.func16, Try.ntmps16
  go_upto_region 3 with (first
    | (go_at_call 28
       refine HMD.out.mono ?_
       rintro e u ⟨rfl, hb⟩
       have HB1 := Lib.hid hb
       clear hb))
  have X0 : Hid (∀ W, Below u.heap.size u W → W.cell? ⟨p, 0, none⟩ = some (.int .i64 (s.most : Int)) ∧ W.cell? ⟨p, 1, none⟩ = some (.pointer (some ⟨pn, 0, none⟩)) ∧ W.cell? ⟨p, 2, none⟩ = some (.pointer nq) ∧ W.cell? ⟨p, 3, none⟩ = some (.int .i64 (s.at_ : Int))) := Lib.hid fun W hb => by
    have hq := (hb.block p (Nat.lt_of_lt_of_le (lt_heap HQ0.out) HB1.out.size)).trans ((HB1.out.block p (lt_heap HQ0.out)).trans HQ0.out)
    exact ⟨blk_cell hq 0, blk_cell hq 1, blk_cell hq 2, blk_cell hq 3⟩
  have HC1 := Lib.hid fun W (k : Below u.heap.size u W) => HC1'.out W (HB1.out.trans (k.mono HB1.out.size))
  have HC2 := Lib.hid fun W (k : Below u.heap.size u W) => HC2'.out W (HB1.out.trans (k.mono HB1.out.size))
  clear HC1' HC2' HMD
  rename_i Kc hKc
  refine wp_region_invG (fun a0 l a W => l.size = 21 ∧ a0.tmps.size = 26 ∧ Below u.heap.size u W ∧ ∃ (b1 : Nat) (F1 : Nat → Prop) (q2 : Option Addr) (F2 : Nat → Prop) (z : Nat), CpI s u l W b1 F1 q2 F2 z ∧ FrU a0 (kv ([(0, 6), (1, 7), (2, 8), (3, 9), (4, 10), (5, 11), (6, 12), (7, 13), (8, 14), (9, 15), (10, 16), (11, 17), (12, 18), (13, 19), (14, 20), (15, 21), (16, 22), (17, 23), (18, 24), (19, 25), (20, 2)] : List (Nat × Nat)) (fun i => ([.pointer (some ⟨p, 0, none⟩), .pointer (some ⟨p, 0, none⟩), .pointer (some ⟨p, 0, none⟩), .int .i64 (s.most : Int), .pointer (some ⟨p, 0, none⟩), .pointer (some ⟨p, 0, none⟩), .pointer (some ⟨p, 1, none⟩), .pointer (some ⟨pn, 0, none⟩), .pointer (some ⟨b1, 0, none⟩), .pointer (some ⟨p, 0, none⟩), .pointer (some ⟨p, 0, none⟩), .pointer (some ⟨p, 2, none⟩), .pointer nq, .pointer q2, .pointer (some ⟨p, 0, none⟩), .pointer (some ⟨p, 0, none⟩), .pointer (some ⟨p, 3, none⟩), .int .i64 (s.at_ : Int), .agg #[.int .i64 (s.most : Int), .pointer (some ⟨b1, 0, none⟩), .pointer q2, .int .i64 (s.at_ : Int)], .pointer (some ⟨z, 0, none⟩), .pointer (some ⟨z, 0, none⟩)][i]?).getD undef)) l a) ?_ ?_ ?_ ?_ ?_ ?_
  · kernel_rfl
  · exact fun _ _ _ h => h.1
  · kernel_rfl
  · exact ⟨by simp, rfl, (Below.refl _ _).drew, 0, fun _ => False, none, fun _ => False, 0, CpI.start _ _ _ _, FrU.start _ _ _⟩
  · intro l a W i5 o hI ho hn hdep
    obtain ⟨hl, hsz, hW, b1, F1, q2, F2, z, hC, hF⟩ := hI
    have x0 := (X0.out W hW).1
    have x1 := (X0.out W hW).2.1
    have x2 := (X0.out W hW).2.2.1
    have x3 := (X0.out W hW).2.2.2
    match i5, ho, hn with
    | 0, ho, hn =>
      simp only [List.getElem?_toArray, List.getElem?_cons_zero, Option.some.injEq] at ho
      subst ho
      refine ⟨rfl, ?_⟩
      have h0 : a.tmps[0]?.getD undef = .pointer (some ⟨p, 0, none⟩) := hF.baseK 0 rfl rfl
      exact owp_value (.pointer (some ⟨p, 0, none⟩)) (w' := W) (by clear hdep; go_simp) ⟨by simp [hl], hsz, hW, b1, F1, q2, F2, z, hC.plain (by decide), hF.putK 0 6 _ (by rw [hsz]; decide) rfl rfl⟩
    | 1, ho, hn =>
      simp only [List.getElem?_toArray, List.getElem?_cons_zero, List.getElem?_cons_succ, Option.some.injEq] at ho
      subst ho
      refine ⟨rfl, ?_⟩
      have h6 := hF.slotK (i := 0) (s := 6) (v := .pointer (some ⟨p, 0, none⟩)) rfl (hdep ⟨0, .data⟩ (by simp) rfl) rfl
      exact owp_value (.pointer (some ⟨p, 0, none⟩)) (w' := W) (by clear hdep; go_simp) ⟨by simp [hl], hsz, hW, b1, F1, q2, F2, z, hC.plain (by decide), hF.putK 1 7 _ (by rw [hsz]; decide) rfl rfl⟩
    | 2, ho, hn =>
      simp only [List.getElem?_toArray, List.getElem?_cons_zero, List.getElem?_cons_succ, Option.some.injEq] at ho
      subst ho
      refine ⟨rfl, ?_⟩
      have h7 := hF.slotK (i := 1) (s := 7) (v := .pointer (some ⟨p, 0, none⟩)) rfl (hdep ⟨1, .data⟩ (by simp) rfl) rfl
      exact owp_value (.pointer (some ⟨p, 0, none⟩)) (w' := W) (by clear hdep; go_simp) ⟨by simp [hl], hsz, hW, b1, F1, q2, F2, z, hC.plain (by decide), hF.putK 2 8 _ (by rw [hsz]; decide) rfl rfl⟩
    | 3, ho, hn =>
      simp only [List.getElem?_toArray, List.getElem?_cons_zero, List.getElem?_cons_succ, Option.some.injEq] at ho
      subst ho
      refine ⟨rfl, ?_⟩
      have h8 := hF.slotK (i := 2) (s := 8) (v := .pointer (some ⟨p, 0, none⟩)) rfl (hdep ⟨2, .data⟩ (by simp) rfl) rfl
      exact owp_value (.int .i64 (s.most : Int)) (w' := W) (by clear hdep; go_simp) ⟨by simp [hl], hsz, hW, b1, F1, q2, F2, z, hC.plain (by decide), hF.putK 3 9 _ (by rw [hsz]; decide) rfl rfl⟩
    | 4, ho, hn =>
      simp only [List.getElem?_toArray, List.getElem?_cons_zero, List.getElem?_cons_succ, Option.some.injEq] at ho
      subst ho
      refine ⟨rfl, ?_⟩
      have h0 : a.tmps[0]?.getD undef = .pointer (some ⟨p, 0, none⟩) := hF.baseK 0 rfl rfl
      exact owp_value (.pointer (some ⟨p, 0, none⟩)) (w' := W) (by clear hdep; go_simp) ⟨by simp [hl], hsz, hW, b1, F1, q2, F2, z, hC.plain (by decide), hF.putK 4 10 _ (by rw [hsz]; decide) rfl rfl⟩
    | 5, ho, hn =>
      simp only [List.getElem?_toArray, List.getElem?_cons_zero, List.getElem?_cons_succ, Option.some.injEq] at ho
      subst ho
      refine ⟨rfl, ?_⟩
      have h10 := hF.slotK (i := 4) (s := 10) (v := .pointer (some ⟨p, 0, none⟩)) rfl (hdep ⟨4, .data⟩ (by simp) rfl) rfl
      exact owp_value (.pointer (some ⟨p, 0, none⟩)) (w' := W) (by clear hdep; go_simp) ⟨by simp [hl], hsz, hW, b1, F1, q2, F2, z, hC.plain (by decide), hF.putK 5 11 _ (by rw [hsz]; decide) rfl rfl⟩
    | 6, ho, hn =>
      simp only [List.getElem?_toArray, List.getElem?_cons_zero, List.getElem?_cons_succ, Option.some.injEq] at ho
      subst ho
      refine ⟨rfl, ?_⟩
      have h11 := hF.slotK (i := 5) (s := 11) (v := .pointer (some ⟨p, 0, none⟩)) rfl (hdep ⟨5, .data⟩ (by simp) rfl) rfl
      exact owp_value (.pointer (some ⟨p, 1, none⟩)) (w' := W) (by clear hdep; go_simp) ⟨by simp [hl], hsz, hW, b1, F1, q2, F2, z, hC.plain (by decide), hF.putK 6 12 _ (by rw [hsz]; decide) rfl rfl⟩
    | 7, ho, hn =>
      simp only [List.getElem?_toArray, List.getElem?_cons_zero, List.getElem?_cons_succ, Option.some.injEq] at ho
      subst ho
      refine ⟨rfl, ?_⟩
      have h12 := hF.slotK (i := 6) (s := 12) (v := .pointer (some ⟨p, 1, none⟩)) rfl (hdep ⟨6, .data⟩ (by simp) rfl) rfl
      exact owp_value (.pointer (some ⟨pn, 0, none⟩)) (w' := W) (by clear hdep; go_simp) ⟨by simp [hl], hsz, hW, b1, F1, q2, F2, z, hC.plain (by decide), hF.putK 7 13 _ (by rw [hsz]; decide) rfl rfl⟩
    | 8, ho, hn =>
      simp only [List.getElem?_toArray, List.getElem?_cons_zero, List.getElem?_cons_succ, Option.some.injEq] at ho
      subst ho
      refine ⟨rfl, ?_⟩
      have h13 := hF.slotK (i := 7) (s := 13) (v := .pointer (some ⟨pn, 0, none⟩)) rfl (hdep ⟨7, .data⟩ (by simp) rfl) rfl
      refine owp_call (fn := 47) (args := #[.pointer (some ⟨pn, 0, none⟩)]) (by clear hdep; go_simp) ?_
      refine (HC1.out W hW).mono ?_
      rintro e w' ⟨c1, G1, rfl, hp, hnew, hb⟩
      have hF2 := hF.swapC (V' := (fun i => ([.pointer (some ⟨p, 0, none⟩), .pointer (some ⟨p, 0, none⟩), .pointer (some ⟨p, 0, none⟩), .int .i64 (s.most : Int), .pointer (some ⟨p, 0, none⟩), .pointer (some ⟨p, 0, none⟩), .pointer (some ⟨p, 1, none⟩), .pointer (some ⟨pn, 0, none⟩), .pointer (some ⟨c1, 0, none⟩), .pointer (some ⟨p, 0, none⟩), .pointer (some ⟨p, 0, none⟩), .pointer (some ⟨p, 2, none⟩), .pointer nq, .pointer q2, .pointer (some ⟨p, 0, none⟩), .pointer (some ⟨p, 0, none⟩), .pointer (some ⟨p, 3, none⟩), .int .i64 (s.at_ : Int), .agg #[.int .i64 (s.most : Int), .pointer (some ⟨c1, 0, none⟩), .pointer q2, .int .i64 (s.at_ : Int)], .pointer (some ⟨z, 0, none⟩), .pointer (some ⟨z, 0, none⟩)][i]?).getD undef)) (fun q hq => by
        match q, hq with
        | 0, hq => rfl
        | 1, hq => rfl
        | 2, hq => rfl
        | 3, hq => rfl
        | 4, hq => rfl
        | 5, hq => rfl
        | 6, hq => rfl
        | 7, hq => rfl
        | 8, hq => exact absurd hq (by rw [getD_tf hn]; exact Bool.false_ne_true)
        | 9, hq => rfl
        | 10, hq => rfl
        | 11, hq => rfl
        | 12, hq => rfl
        | 13, hq => rfl
        | 14, hq => rfl
        | 15, hq => rfl
        | 16, hq => rfl
        | 17, hq => rfl
        | 18, hq => exact absurd hq (hC.no18 (.inl rfl) hn (i := 18) (by decide))
        | 19, hq => rfl
        | 20, hq => rfl
        | q + 21, _ => rfl)
      exact ⟨_, rfl, by simp [hl], hsz, hW.trans (hb.mono hW.size), c1, G1, q2, F2, z, hC.c8 hn hW hb hp hnew, hF2.putK 8 14 _ (by rw [hsz]; decide) rfl rfl⟩
    | 9, ho, hn =>
      simp only [List.getElem?_toArray, List.getElem?_cons_zero, List.getElem?_cons_succ, Option.some.injEq] at ho
      subst ho
      refine ⟨rfl, ?_⟩
      have h0 : a.tmps[0]?.getD undef = .pointer (some ⟨p, 0, none⟩) := hF.baseK 0 rfl rfl
      exact owp_value (.pointer (some ⟨p, 0, none⟩)) (w' := W) (by clear hdep; go_simp) ⟨by simp [hl], hsz, hW, b1, F1, q2, F2, z, hC.plain (by decide), hF.putK 9 15 _ (by rw [hsz]; decide) rfl rfl⟩
    | 10, ho, hn =>
      simp only [List.getElem?_toArray, List.getElem?_cons_zero, List.getElem?_cons_succ, Option.some.injEq] at ho
      subst ho
      refine ⟨rfl, ?_⟩
      have h15 := hF.slotK (i := 9) (s := 15) (v := .pointer (some ⟨p, 0, none⟩)) rfl (hdep ⟨9, .data⟩ (by simp) rfl) rfl
      exact owp_value (.pointer (some ⟨p, 0, none⟩)) (w' := W) (by clear hdep; go_simp) ⟨by simp [hl], hsz, hW, b1, F1, q2, F2, z, hC.plain (by decide), hF.putK 10 16 _ (by rw [hsz]; decide) rfl rfl⟩
    | 11, ho, hn =>
      simp only [List.getElem?_toArray, List.getElem?_cons_zero, List.getElem?_cons_succ, Option.some.injEq] at ho
      subst ho
      refine ⟨rfl, ?_⟩
      have h16 := hF.slotK (i := 10) (s := 16) (v := .pointer (some ⟨p, 0, none⟩)) rfl (hdep ⟨10, .data⟩ (by simp) rfl) rfl
      exact owp_value (.pointer (some ⟨p, 2, none⟩)) (w' := W) (by clear hdep; go_simp) ⟨by simp [hl], hsz, hW, b1, F1, q2, F2, z, hC.plain (by decide), hF.putK 11 17 _ (by rw [hsz]; decide) rfl rfl⟩
    | 12, ho, hn =>
      simp only [List.getElem?_toArray, List.getElem?_cons_zero, List.getElem?_cons_succ, Option.some.injEq] at ho
      subst ho
      refine ⟨rfl, ?_⟩
      have h17 := hF.slotK (i := 11) (s := 17) (v := .pointer (some ⟨p, 2, none⟩)) rfl (hdep ⟨11, .data⟩ (by simp) rfl) rfl
      exact owp_value (.pointer nq) (w' := W) (by clear hdep; go_simp) ⟨by simp [hl], hsz, hW, b1, F1, q2, F2, z, hC.plain (by decide), hF.putK 12 18 _ (by rw [hsz]; decide) rfl rfl⟩
    | 13, ho, hn =>
      simp only [List.getElem?_toArray, List.getElem?_cons_zero, List.getElem?_cons_succ, Option.some.injEq] at ho
      subst ho
      refine ⟨rfl, ?_⟩
      have h18 := hF.slotK (i := 12) (s := 18) (v := .pointer nq) rfl (hdep ⟨12, .data⟩ (by simp) rfl) rfl
      refine owp_call (fn := 47) (args := #[.pointer nq]) (by clear hdep; go_simp) ?_
      refine (HC2.out W hW).mono ?_
      rintro e w' ⟨c2, G2, rfl, hp, hnew, hb⟩
      have hF2 := hF.swapC (V' := (fun i => ([.pointer (some ⟨p, 0, none⟩), .pointer (some ⟨p, 0, none⟩), .pointer (some ⟨p, 0, none⟩), .int .i64 (s.most : Int), .pointer (some ⟨p, 0, none⟩), .pointer (some ⟨p, 0, none⟩), .pointer (some ⟨p, 1, none⟩), .pointer (some ⟨pn, 0, none⟩), .pointer (some ⟨b1, 0, none⟩), .pointer (some ⟨p, 0, none⟩), .pointer (some ⟨p, 0, none⟩), .pointer (some ⟨p, 2, none⟩), .pointer nq, .pointer c2, .pointer (some ⟨p, 0, none⟩), .pointer (some ⟨p, 0, none⟩), .pointer (some ⟨p, 3, none⟩), .int .i64 (s.at_ : Int), .agg #[.int .i64 (s.most : Int), .pointer (some ⟨b1, 0, none⟩), .pointer c2, .int .i64 (s.at_ : Int)], .pointer (some ⟨z, 0, none⟩), .pointer (some ⟨z, 0, none⟩)][i]?).getD undef)) (fun q hq => by
        match q, hq with
        | 0, hq => rfl
        | 1, hq => rfl
        | 2, hq => rfl
        | 3, hq => rfl
        | 4, hq => rfl
        | 5, hq => rfl
        | 6, hq => rfl
        | 7, hq => rfl
        | 8, hq => rfl
        | 9, hq => rfl
        | 10, hq => rfl
        | 11, hq => rfl
        | 12, hq => rfl
        | 13, hq => exact absurd hq (by rw [getD_tf hn]; exact Bool.false_ne_true)
        | 14, hq => rfl
        | 15, hq => rfl
        | 16, hq => rfl
        | 17, hq => rfl
        | 18, hq => exact absurd hq (hC.no18 (.inr rfl) hn (i := 18) (by decide))
        | 19, hq => rfl
        | 20, hq => rfl
        | q + 21, _ => rfl)
      exact ⟨_, rfl, by simp [hl], hsz, hW.trans (hb.mono hW.size), b1, F1, c2, G2, z, hC.c13 hn hW hb hp hnew, hF2.putK 13 19 _ (by rw [hsz]; decide) rfl rfl⟩
    | 14, ho, hn =>
      simp only [List.getElem?_toArray, List.getElem?_cons_zero, List.getElem?_cons_succ, Option.some.injEq] at ho
      subst ho
      refine ⟨rfl, ?_⟩
      have h0 : a.tmps[0]?.getD undef = .pointer (some ⟨p, 0, none⟩) := hF.baseK 0 rfl rfl
      exact owp_value (.pointer (some ⟨p, 0, none⟩)) (w' := W) (by clear hdep; go_simp) ⟨by simp [hl], hsz, hW, b1, F1, q2, F2, z, hC.plain (by decide), hF.putK 14 20 _ (by rw [hsz]; decide) rfl rfl⟩
    | 15, ho, hn =>
      simp only [List.getElem?_toArray, List.getElem?_cons_zero, List.getElem?_cons_succ, Option.some.injEq] at ho
      subst ho
      refine ⟨rfl, ?_⟩
      have h20 := hF.slotK (i := 14) (s := 20) (v := .pointer (some ⟨p, 0, none⟩)) rfl (hdep ⟨14, .data⟩ (by simp) rfl) rfl
      exact owp_value (.pointer (some ⟨p, 0, none⟩)) (w' := W) (by clear hdep; go_simp) ⟨by simp [hl], hsz, hW, b1, F1, q2, F2, z, hC.plain (by decide), hF.putK 15 21 _ (by rw [hsz]; decide) rfl rfl⟩
    | 16, ho, hn =>
      simp only [List.getElem?_toArray, List.getElem?_cons_zero, List.getElem?_cons_succ, Option.some.injEq] at ho
      subst ho
      refine ⟨rfl, ?_⟩
      have h21 := hF.slotK (i := 15) (s := 21) (v := .pointer (some ⟨p, 0, none⟩)) rfl (hdep ⟨15, .data⟩ (by simp) rfl) rfl
      exact owp_value (.pointer (some ⟨p, 3, none⟩)) (w' := W) (by clear hdep; go_simp) ⟨by simp [hl], hsz, hW, b1, F1, q2, F2, z, hC.plain (by decide), hF.putK 16 22 _ (by rw [hsz]; decide) rfl rfl⟩
    | 17, ho, hn =>
      simp only [List.getElem?_toArray, List.getElem?_cons_zero, List.getElem?_cons_succ, Option.some.injEq] at ho
      subst ho
      refine ⟨rfl, ?_⟩
      have h22 := hF.slotK (i := 16) (s := 22) (v := .pointer (some ⟨p, 3, none⟩)) rfl (hdep ⟨16, .data⟩ (by simp) rfl) rfl
      exact owp_value (.int .i64 (s.at_ : Int)) (w' := W) (by clear hdep; go_simp) ⟨by simp [hl], hsz, hW, b1, F1, q2, F2, z, hC.plain (by decide), hF.putK 17 23 _ (by rw [hsz]; decide) rfl rfl⟩
    | 18, ho, hn =>
      simp only [List.getElem?_toArray, List.getElem?_cons_zero, List.getElem?_cons_succ, Option.some.injEq] at ho
      subst ho
      refine ⟨rfl, ?_⟩
      have h9 := hF.slotK (i := 3) (s := 9) (v := .int .i64 (s.most : Int)) rfl (hdep ⟨3, .data⟩ (by simp) rfl) rfl
      have h14 := hF.slotK (i := 8) (s := 14) (v := .pointer (some ⟨b1, 0, none⟩)) rfl (hdep ⟨8, .data⟩ (by simp) rfl) rfl
      have h19 := hF.slotK (i := 13) (s := 19) (v := .pointer q2) rfl (hdep ⟨13, .data⟩ (by simp) rfl) rfl
      have h23 := hF.slotK (i := 17) (s := 23) (v := .int .i64 (s.at_ : Int)) rfl (hdep ⟨17, .data⟩ (by simp) rfl) rfl
      have hbd : ∀ (W : World), (Instr.build 51 #[(0, .int .i64 (s.most : Int)), (1, .pointer (some ⟨b1, 0, none⟩)), (2, .pointer q2), (3, .int .i64 (s.at_ : Int))]).run Try.prog W = .ok (.agg #[.int .i64 (s.most : Int), .pointer (some ⟨b1, 0, none⟩), .pointer q2, .int .i64 (s.at_ : Int)]) W := fun W => by kernel_rfl
      exact owp_value (.agg #[.int .i64 (s.most : Int), .pointer (some ⟨b1, 0, none⟩), .pointer q2, .int .i64 (s.at_ : Int)]) (w' := W) (by clear hdep; go_simp) ⟨by simp [hl], hsz, hW, b1, F1, q2, F2, z, hC.c18 (hdep ⟨8, .data⟩ (by simp) rfl) (hdep ⟨13, .data⟩ (by simp) rfl), hF.putK 18 24 _ (by rw [hsz]; decide) rfl rfl⟩
    | 19, ho, hn =>
      simp only [List.getElem?_toArray, List.getElem?_cons_zero, List.getElem?_cons_succ, Option.some.injEq] at ho
      subst ho
      refine ⟨rfl, ?_⟩
      have h24 := hF.slotK (i := 18) (s := 24) (v := .agg #[.int .i64 (s.most : Int), .pointer (some ⟨b1, 0, none⟩), .pointer q2, .int .i64 (s.at_ : Int)]) rfl (hdep ⟨18, .data⟩ (by simp) rfl) rfl
      have hb := below_alloc W (.cells #[.int .i64 (s.most : Int), .pointer (some ⟨b1, 0, none⟩), .pointer q2, .int .i64 (s.at_ : Int)] 51)
      have hF2 := hF.swapC (V' := (fun i => ([.pointer (some ⟨p, 0, none⟩), .pointer (some ⟨p, 0, none⟩), .pointer (some ⟨p, 0, none⟩), .int .i64 (s.most : Int), .pointer (some ⟨p, 0, none⟩), .pointer (some ⟨p, 0, none⟩), .pointer (some ⟨p, 1, none⟩), .pointer (some ⟨pn, 0, none⟩), .pointer (some ⟨b1, 0, none⟩), .pointer (some ⟨p, 0, none⟩), .pointer (some ⟨p, 0, none⟩), .pointer (some ⟨p, 2, none⟩), .pointer nq, .pointer q2, .pointer (some ⟨p, 0, none⟩), .pointer (some ⟨p, 0, none⟩), .pointer (some ⟨p, 3, none⟩), .int .i64 (s.at_ : Int), .agg #[.int .i64 (s.most : Int), .pointer (some ⟨b1, 0, none⟩), .pointer q2, .int .i64 (s.at_ : Int)], .pointer (some ⟨W.heap.size, 0, none⟩), .pointer (some ⟨W.heap.size, 0, none⟩)][i]?).getD undef)) (fun q hq => by
        match q, hq with
        | 0, hq => rfl
        | 1, hq => rfl
        | 2, hq => rfl
        | 3, hq => rfl
        | 4, hq => rfl
        | 5, hq => rfl
        | 6, hq => rfl
        | 7, hq => rfl
        | 8, hq => rfl
        | 9, hq => rfl
        | 10, hq => rfl
        | 11, hq => rfl
        | 12, hq => rfl
        | 13, hq => rfl
        | 14, hq => rfl
        | 15, hq => rfl
        | 16, hq => rfl
        | 17, hq => rfl
        | 18, hq => rfl
        | 19, hq => exact absurd hq (by rw [getD_tf hn]; exact Bool.false_ne_true)
        | 20, hq => exact absurd hq (hC.no19 hn (i := 20) (by decide))
        | q + 21, _ => rfl)
      exact owp_value (.pointer (some ⟨W.heap.size, 0, none⟩)) (w' := W.alloc (.cells #[.int .i64 (s.most : Int), .pointer (some ⟨b1, 0, none⟩), .pointer q2, .int .i64 (s.at_ : Int)] 51)) (by clear hdep; go_simp) ⟨by simp [hl], hsz, hW.trans (hb.mono hW.size), b1, F1, q2, F2, W.heap.size, hC.c19 hn hW (hdep ⟨18, .data⟩ (by simp) rfl), hF2.putK 19 25 _ (by rw [hsz]; decide) rfl rfl⟩
    | 20, ho, hn =>
      simp only [List.getElem?_toArray, List.getElem?_cons_zero, List.getElem?_cons_succ, Option.some.injEq] at ho
      subst ho
      refine ⟨rfl, ?_⟩
      have h25 := hF.slotK (i := 19) (s := 25) (v := .pointer (some ⟨z, 0, none⟩)) rfl (hdep ⟨19, .data⟩ (by simp) rfl) rfl
      exact owp_value (.pointer (some ⟨z, 0, none⟩)) (w' := W) (by clear hdep; go_simp) ⟨by simp [hl], hsz, hW, b1, F1, q2, F2, z, hC.c20 (hdep ⟨19, .data⟩ (by simp) rfl), hF.putK 20 2 _ (by rw [hsz]; decide) rfl rfl⟩
    | i5 + 21, ho, hn => simp at ho
  · intro l a W1 hI hall
    obtain ⟨_, _, hW1, b1, F1, q2, F2, z, hC, hF⟩ := hI
    have hall : ∀ i, i < 21 → l.getD i false = true := hall
    have ha := FrU.allQ (K := ([(0, 6), (1, 7), (2, 8), (3, 9), (4, 10), (5, 11), (6, 12), (7, 13), (8, 14), (9, 15), (10, 16), (11, 17), (12, 18), (13, 19), (14, 20), (15, 21), (16, 22), (17, 23), (18, 24), (19, 25), (20, 2)] : List (Nat × Nat))) (V := (fun i => ([.pointer (some ⟨p, 0, none⟩), .pointer (some ⟨p, 0, none⟩), .pointer (some ⟨p, 0, none⟩), .int .i64 (s.most : Int), .pointer (some ⟨p, 0, none⟩), .pointer (some ⟨p, 0, none⟩), .pointer (some ⟨p, 1, none⟩), .pointer (some ⟨pn, 0, none⟩), .pointer (some ⟨b1, 0, none⟩), .pointer (some ⟨p, 0, none⟩), .pointer (some ⟨p, 0, none⟩), .pointer (some ⟨p, 2, none⟩), .pointer nq, .pointer q2, .pointer (some ⟨p, 0, none⟩), .pointer (some ⟨p, 0, none⟩), .pointer (some ⟨p, 3, none⟩), .int .i64 (s.at_ : Int), .agg #[.int .i64 (s.most : Int), .pointer (some ⟨b1, 0, none⟩), .pointer q2, .int .i64 (s.at_ : Int)], .pointer (some ⟨z, 0, none⟩), .pointer (some ⟨z, 0, none⟩)][i]?).getD undef)) (BL := ([(0, 6, .pointer (some ⟨p, 0, none⟩)), (1, 7, .pointer (some ⟨p, 0, none⟩)), (2, 8, .pointer (some ⟨p, 0, none⟩)), (3, 9, .int .i64 (s.most : Int)), (4, 10, .pointer (some ⟨p, 0, none⟩)), (5, 11, .pointer (some ⟨p, 0, none⟩)), (6, 12, .pointer (some ⟨p, 1, none⟩)), (7, 13, .pointer (some ⟨pn, 0, none⟩)), (8, 14, .pointer (some ⟨b1, 0, none⟩)), (9, 15, .pointer (some ⟨p, 0, none⟩)), (10, 16, .pointer (some ⟨p, 0, none⟩)), (11, 17, .pointer (some ⟨p, 2, none⟩)), (12, 18, .pointer nq), (13, 19, .pointer q2), (14, 20, .pointer (some ⟨p, 0, none⟩)), (15, 21, .pointer (some ⟨p, 0, none⟩)), (16, 22, .pointer (some ⟨p, 3, none⟩)), (17, 23, .int .i64 (s.at_ : Int)), (18, 24, .agg #[.int .i64 (s.most : Int), .pointer (some ⟨b1, 0, none⟩), .pointer q2, .int .i64 (s.at_ : Int)]), (19, 25, .pointer (some ⟨z, 0, none⟩)), (20, 2, .pointer (some ⟨z, 0, none⟩))] : List (Nat × Nat × Value))) hF rfl (n := 21) hall rfl
    subst ha
    have HW1 := Lib.hid hW1
    have HP1 := Lib.hid (hC.one (hall 8 (by decide)))
    have HP2 := Lib.hid (hC.two (hall 13 (by decide)))
    have HP3 := Lib.hid (hC.both (hall 8 (by decide)) (hall 13 (by decide)))
    have HP4 := Lib.hid (hC.box (hall 19 (by decide)))
    clear hF hall hW1 hC
    refine hKc _ _ ?_
    simp only [setAll, List.setIfInBounds_toArray, List.set_cons_succ, List.set_cons_zero]
    go_wp2_with fail
    go_ret
    obtain ⟨h1, h2⟩ := HP1.out
    obtain ⟨h3, h4⟩ := HP2.out
    obtain ⟨h5, h6, h7, h8⟩ := HP4.out
    have hb1 := HB1.out.size
    refine ⟨z, rfl, (fun k => k = z ∨ F1 k ∨ F2 k), ⟨b1, nqB q2, F1, F2, ?_, h1, fun e => (h3.1 e).elim fun b hb => ?_, .inl rfl, fun k hk => .inr (.inl hk), fun _ k hk => .inr (.inr hk), h7, fun _ => ⟨h8, fun k hk hn => HP3.out k hn hk⟩, fun k hk => ?_, HMY.out⟩, fun k hk => ?_, HB1.out.trans (HW1.out.mono HB1.out.size)⟩
    · rw [h6]
      cases hm : s.mv with
      | true =>
        obtain ⟨b, rfl, _⟩ := h3.1 hm
        rfl
      | false =>
        obtain ⟨rfl, _⟩ := h3.2 hm
        rfl
    · obtain ⟨rfl, hb⟩ := hb
      exact hb
    · rcases hk with rfl | hk | hk
      · exact lt_heap h6
      · exact footPT0.old h1 k hk
      · cases hm : s.mv with
        | true =>
          obtain ⟨b, rfl, hb⟩ := h3.1 hm
          exact footPT0.old hb k hk
        | false => exact absurd hk ((h3.2 hm).2 k)
    · rcases hk with rfl | hk | hk
      · omega
      · have := h2 k hk
        omega
      · have := h4 k hk
        omega
end
end Go.Proofs.Ythjghofjdcepmaa
