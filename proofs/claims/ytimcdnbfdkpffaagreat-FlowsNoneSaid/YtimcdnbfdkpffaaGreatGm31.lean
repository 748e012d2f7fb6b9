import Derived.Test.YtimcdnbfdkpffaaGreatGm30
import Derived.Test.YtimcdnbfdkpffaaGreatGm25
import Derived.WalkMore
import Derived.Test.YtimcdnbfdkpffaaGreatGm3
import Derived.Test.YtimcdnbfdkpffaaGreatGm26
import Derived.OwnWalkIn
import Derived.TacticsInMore
import Derived.WalkKit
import Derived.Test.YtimcdnbfdkpffaaGreatGm15
import Derived.Test.YtimcdnbfdkpffaaGreatGm19
/- Stage 14: the landed growing table: Copy, New. -/
namespace Go.Proofs.YtimcdnbfdkpffaaGreat
set_option maxRecDepth 100000
open Go.RowKit Go.Shelf
/-- Entries told anew, none of which has come. -/
theorem FrU.swapC {a0 a : Act} {K : List (Nat × Nat)} {V V' : Nat → Value} {l : Array Bool} (h : FrU a0 (kv K V) l a) (hV : ∀ k, l.getD k false = true → V k = V' k) : FrU a0 (kv K V') l a := by
  obtain ⟨h1, h2, h3, h4⟩ := h
  refine ⟨h1, h2, fun x hx hl => ?_, fun s hs => h4 s fun x hx => ?_⟩
  · obtain ⟨y, hy, rfl⟩ := List.mem_map.1 hx
    show a.tmps[y.2]?.getD undef = V' y.1
    rw [← hV y.1 hl]
    exact h3 _ (List.mem_map.2 ⟨y, hy, rfl⟩) hl
  · obtain ⟨y, hy, rfl⟩ := List.mem_map.1 hx
    exact hs (y.1, y.2, V' y.1) (List.mem_map.2 ⟨y, hy, rfl⟩)
/-- A copy of the next table, or none. -/
def NxT (s : Gr) (W : World) (q : Option Addr) (F : Nat → Prop) : Prop := (s.mv = true → ∃ b, q = some ⟨b, 0, none⟩ ∧ PT0 W b s.next F) ∧ (s.mv = false → q = none ∧ ∀ k, ¬ F k)
theorem NxT.step {s : Gr} {W W' : World} {q : Option Addr} {F : Nat → Prop} (h : NxT s W q F) (hb : Below W.heap.size W W') : NxT s W' q F := ⟨fun e => by
  obtain ⟨b, h1, h2⟩ := h.1 e
  exact ⟨b, h1, pt0_step h2 hb⟩, h.2⟩
theorem NxT.old {s : Gr} {W : World} {q : Option Addr} {F : Nat → Prop} (h : NxT s W q F) : ∀ k, F k → k < W.heap.size := fun k hk => by
  cases hm : s.mv with
  | true =>
    obtain ⟨b, _, h2⟩ := h.1 hm
    exact footPT0.old h2 k hk
  | false => exact absurd hk ((h.2 hm).2 k)
def nqB : Option Addr → Nat
  | some a => a.block
  | none => 0
/-- What Copy's region has laid so far. -/
structure CpI (s : Gr) (u : World) (l : Array Bool) (W : World) (b1 : Nat) (F1 : Nat → Prop) (q2 : Option Addr) (F2 : Nat → Prop) (z : Nat) : Prop where
  one : l.getD 8 false = true → PT0 W b1 s.now F1 ∧ ∀ k, F1 k → u.heap.size ≤ k
  two : l.getD 13 false = true → NxT s W q2 F2 ∧ ∀ k, F2 k → u.heap.size ≤ k
  both : l.getD 8 false = true → l.getD 13 false = true → ∀ k, F1 k → ¬ F2 k
  box : l.getD 19 false = true → u.heap.size ≤ z ∧ W.heap[z]? = some (.cells #[.int .i64 (s.most : Int), .pointer (some ⟨b1, 0, none⟩), .pointer q2, .int .i64 (s.at_ : Int)] 131 (0, 0)) ∧ ¬ F1 z ∧ ¬ F2 z
  d18 : l.getD 18 false = true → l.getD 8 false = true ∧ l.getD 13 false = true
  d19 : l.getD 19 false = true → l.getD 18 false = true
  d20 : l.getD 20 false = true → l.getD 19 false = true
section
variable {s : Gr} {u : World} {l : Array Bool} {W W' : World} {b1 : Nat} {F1 : Nat → Prop} {q2 : Option Addr} {F2 : Nat → Prop} {z : Nat}
theorem CpI.start (s : Gr) (u : World) (n : Nat) (z : Nat) : CpI s u (Array.replicate n false) u.drew 0 (fun _ => False) none (fun _ => False) z :=
  ⟨fun h => (by rw [getD_none] at h; cases h), fun h => (by rw [getD_none] at h; cases h), fun h => (by rw [getD_none] at h; cases h), fun h => (by rw [getD_none] at h; cases h), fun h => (by rw [getD_none] at h; cases h), fun h => (by rw [getD_none] at h; cases h), fun h => (by rw [getD_none] at h; cases h)⟩
theorem CpI.plain (h : CpI s u l W b1 F1 q2 F2 z) {k : Nat} (hk : k ≠ 8 ∧ k ≠ 13 ∧ k ≠ 18 ∧ k ≠ 19 ∧ k ≠ 20) : CpI s u (l.setIfInBounds k true) W b1 F1 q2 F2 z := by
  have e : ∀ i, (i = 8 ∨ i = 13 ∨ i = 18 ∨ i = 19 ∨ i = 20) → (l.setIfInBounds k true).getD i false = l.getD i false := fun i hi => by rw [getD_set (by omega)]
  exact ⟨by rw [e 8 (by omega)]; exact h.one, by rw [e 13 (by omega)]; exact h.two, by rw [e 8 (by omega), e 13 (by omega)]; exact h.both, by rw [e 19 (by omega)]; exact h.box, by rw [e 18 (by omega), e 8 (by omega), e 13 (by omega)]; exact h.d18, by rw [e 19 (by omega), e 18 (by omega)]; exact h.d19, by rw [e 20 (by omega), e 19 (by omega)]; exact h.d20⟩
theorem CpI.no19 (h : CpI s u l W b1 F1 q2 F2 z) (hn : l.getD 19 true = false) {i : Nat} (hi : i = 19 ∨ i = 20) : ¬ l.getD i false = true := fun q => by
  have e := getD_tf hn
  rcases hi with rfl | rfl
  · rw [e] at q; cases q
  · have := h.d20 q
    rw [e] at this; cases this
theorem CpI.no18 (h : CpI s u l W b1 F1 q2 F2 z) {j : Nat} (hj : j = 8 ∨ j = 13) (hn : l.getD j true = false) {i : Nat} (hi : i = 18 ∨ i = 19 ∨ i = 20) : ¬ l.getD i false = true := fun q => by
  have e := getD_tf hn
  have h18 : l.getD 18 false = true := by
    rcases hi with rfl | rfl | rfl
    · exact q
    · exact h.d19 q
    · exact h.d19 (h.d20 q)
  have h2 := h.d18 h18
  rcases hj with rfl | rfl
  · rw [e] at h2; cases h2.1
  · rw [e] at h2; cases h2.2
theorem CpI.c8 (h : CpI s u l W b1 F1 q2 F2 z) (hn : l.getD 8 true = false) (hW : Below u.heap.size u W) (hb : Below W.heap.size W W') {c : Nat} {G : Nat → Prop} (hp : PT0 W' c s.now G) (hnew : ∀ k, G k → W.heap.size ≤ k) : CpI s u (l.setIfInBounds 8 true) W' c G q2 F2 z := by
  have e : ∀ i, i ≠ 8 → (l.setIfInBounds 8 true).getD i false = l.getD i false := fun i hi => by rw [getD_set (by omega)]
  have n18 := fun {i : Nat} hi => h.no18 (.inl rfl) hn (i := i) hi
  refine ⟨fun _ => ⟨hp, fun k hk => Nat.le_trans hW.size (hnew k hk)⟩, fun q => ?_, fun _ q k hk hk2 => ?_, fun q => ?_, fun q => ?_, fun q => ?_, fun q => ?_⟩
  · rw [e 13 (by decide)] at q
    exact ⟨(h.two q).1.step hb, (h.two q).2⟩
  · rw [e 13 (by decide)] at q
    have h1 := hnew k hk
    have h2 := (h.two q).1.old k hk2
    omega
  · rw [e 19 (by decide)] at q
    exact absurd q (n18 (.inr (.inl rfl)))
  · rw [e 18 (by decide)] at q
    exact absurd q (n18 (.inl rfl))
  · rw [e 19 (by decide)] at q
    exact absurd q (n18 (.inr (.inl rfl)))
  · rw [e 20 (by decide)] at q
    exact absurd q (n18 (.inr (.inr rfl)))
theorem CpI.c13 (h : CpI s u l W b1 F1 q2 F2 z) (hn : l.getD 13 true = false) (hW : Below u.heap.size u W) (hb : Below W.heap.size W W') {c : Option Addr} {G : Nat → Prop} (hp : NxT s W' c G) (hnew : ∀ k, G k → W.heap.size ≤ k) : CpI s u (l.setIfInBounds 13 true) W' b1 F1 c G z := by
  have e : ∀ i, i ≠ 13 → (l.setIfInBounds 13 true).getD i false = l.getD i false := fun i hi => by rw [getD_set (by omega)]
  have n18 := fun {i : Nat} hi => h.no18 (.inr rfl) hn (i := i) hi
  refine ⟨fun q => ?_, fun _ => ⟨hp, fun k hk => Nat.le_trans hW.size (hnew k hk)⟩, fun q _ k hk hk2 => ?_, fun q => ?_, fun q => ?_, fun q => ?_, fun q => ?_⟩
  · rw [e 8 (by decide)] at q
    exact ⟨pt0_step (h.one q).1 hb, (h.one q).2⟩
  · rw [e 8 (by decide)] at q
    have h1 := hnew k hk2
    have h2 := footPT0.old (h.one q).1 k hk
    omega
  · rw [e 19 (by decide)] at q
    exact absurd q (n18 (.inr (.inl rfl)))
  · rw [e 18 (by decide)] at q
    exact absurd q (n18 (.inl rfl))
  · rw [e 19 (by decide)] at q
    exact absurd q (n18 (.inr (.inl rfl)))
  · rw [e 20 (by decide)] at q
    exact absurd q (n18 (.inr (.inr rfl)))
theorem CpI.c18 (h : CpI s u l W b1 F1 q2 F2 z) (h8 : l.getD 8 false = true) (h13 : l.getD 13 false = true) : CpI s u (l.setIfInBounds 18 true) W b1 F1 q2 F2 z := by
  have e : ∀ i, i ≠ 18 → (l.setIfInBounds 18 true).getD i false = l.getD i false := fun i hi => by rw [getD_set (by omega)]
  refine ⟨by rw [e 8 (by decide)]; exact h.one, by rw [e 13 (by decide)]; exact h.two, by rw [e 8 (by decide), e 13 (by decide)]; exact h.both, by rw [e 19 (by decide)]; exact h.box, fun _ => by rw [e 8 (by decide), e 13 (by decide)]; exact ⟨h8, h13⟩, fun q => ?_, by rw [e 20 (by decide), e 19 (by decide)]; exact h.d20⟩
  rw [e 19 (by decide)] at q
  have h18 := h.d19 q
  rw [Array.getD_eq_getD_getElem?] at h18 ⊢
  rw [Array.getElem?_setIfInBounds]
  split
  · rename_i e1
    split
    · rfl
    · rename_i e2
      rw [Array.getElem?_eq_none (by omega)] at h18
      exact h18
  · exact h18
theorem CpI.c19 (h : CpI s u l W b1 F1 q2 F2 z) (hn : l.getD 19 true = false) (hW : Below u.heap.size u W) (h18 : l.getD 18 false = true) : CpI s u (l.setIfInBounds 19 true) (W.alloc (.cells #[.int .i64 (s.most : Int), .pointer (some ⟨b1, 0, none⟩), .pointer q2, .int .i64 (s.at_ : Int)] 131)) b1 F1 q2 F2 W.heap.size := by
  have e : ∀ i, i ≠ 19 → (l.setIfInBounds 19 true).getD i false = l.getD i false := fun i hi => by rw [getD_set (by omega)]
  have hb := below_alloc W (.cells #[.int .i64 (s.most : Int), .pointer (some ⟨b1, 0, none⟩), .pointer q2, .int .i64 (s.at_ : Int)] 131)
  obtain ⟨h8, h13⟩ := h.d18 h18
  refine ⟨fun _ => ⟨pt0_step (h.one h8).1 hb, (h.one h8).2⟩, fun _ => ⟨(h.two h13).1.step hb, (h.two h13).2⟩, fun _ _ => h.both h8 h13, fun _ => ⟨hW.size, heap_alloc_new W _, fun q => ?_, fun q => ?_⟩, fun _ => by rw [e 8 (by decide), e 13 (by decide)]; exact ⟨h8, h13⟩, fun _ => by rw [e 18 (by decide)]; exact h18, fun _ => getD_set_self hn⟩
  · have := footPT0.old (h.one h8).1 _ q
    omega
  · have := (h.two h13).1.old _ q
    omega
theorem CpI.c20 (h : CpI s u l W b1 F1 q2 F2 z) (h19 : l.getD 19 false = true) : CpI s u (l.setIfInBounds 20 true) W b1 F1 q2 F2 z := by
  have e : ∀ i, i ≠ 20 → (l.setIfInBounds 20 true).getD i false = l.getD i false := fun i hi => by rw [getD_set (by omega)]
  exact ⟨by rw [e 8 (by decide)]; exact h.one, by rw [e 13 (by decide)]; exact h.two, by rw [e 8 (by decide), e 13 (by decide)]; exact h.both, by rw [e 19 (by decide)]; exact h.box, by rw [e 18 (by decide), e 8 (by decide), e 13 (by decide)]; exact h.d18, by rw [e 19 (by decide), e 18 (by decide)]; exact h.d19, fun _ => by rw [e 19 (by decide)]; exact h19⟩
end
section
variable {w : World} {p pn px : Nat} {s : Gr} {F Fn Fx : Nat → Prop}
set_option maxHeartbeats 4000000 in
theorem gcopy_any (h : PGY w p pn px s F Fn Fx) (hs : s.Ok) : Calls Tryz.prog 41 #[.pointer (some ⟨p, 0, none⟩)] w fun e w' => ∃ b F', e = .returned (.pointer (some ⟨b, 0, none⟩)) ∧ PG0 w' b s F' ∧ (∀ k, F' k → w.heap.size ≤ k) ∧ Below w.heap.size w w' := by
  have HMD := Lib.hid h.made
  have HY := Lib.hid h
  have HMY := Lib.hid h.may
  obtain ⟨nq, hnq⟩ : ∃ q, q = (if s.mv then some (⟨px, 0, none⟩ : Addr) else none) := ⟨_, rfl⟩
  have HQ0 : Hid (w.heap[p]? = some (.cells #[.int .i64 (s.most : Int), .pointer (some ⟨pn, 0, none⟩), .pointer nq, .int .i64 (s.at_ : Int)] 131 (0, 0))) := Lib.hid (by rw [hnq]; exact h.blk)
  have HC1' : Hid (∀ W, Below w.heap.size w W → Calls Tryz.prog 85 #[.pointer (some ⟨pn, 0, none⟩)] W fun e w' => ∃ b G, e = .returned (.pointer (some ⟨b, 0, none⟩)) ∧ PT0 w' b s.now G ∧ (∀ k, G k → W.heap.size ≤ k) ∧ Below W.heap.size W w') := Lib.hid fun W k => tabP.copy (pt0_step h.now k) hs.now
  have HC2' : Hid (∀ W, Below w.heap.size w W → Calls Tryz.prog 85 #[.pointer nq] W fun e w' => ∃ q G, e = .returned (.pointer q) ∧ NxT s w' q G ∧ (∀ k, G k → W.heap.size ≤ k) ∧ Below W.heap.size W w') := Lib.hid fun W k => by
    cases hm : s.mv with
    | true =>
      rw [hnq, hm, if_pos rfl]
      refine (tabP.copy (pt0_step (h.next hm) k) (hs.next hm)).mono ?_
      rintro e w' ⟨b, G, rfl, h1, h2, h3⟩
      exact ⟨some ⟨b, 0, none⟩, G, rfl, ⟨fun _ => ⟨b, rfl, h1⟩, fun e => (by rw [hm] at e; cases e)⟩, h2, h3⟩
    | false =>
      rw [hnq, hm, if_neg Bool.false_ne_true]
      refine (tcopy_un (tmade_un (.inl rfl))).mono ?_
      rintro e w' ⟨rfl, hb⟩
      exact ⟨none, fun _ => False, rfl, ⟨fun e => (by rw [hm] at e; cases e), fun _ => ⟨rfl, fun _ q => q⟩⟩, fun _ q => q.elim, hb⟩
  clear h hs hnq
  go_enter Tryz.func41, Tryz.ntmps41
  go_upto_region 3 with (first
    | (go_at_call 84
       refine HMD.out.mono ?_
       rintro e u ⟨rfl, hb⟩
       have HB1 := Lib.hid hb
       clear hb))
  have X0 : Hid (∀ W, Below u.heap.size u W → W.cell? ⟨p, 0, none⟩ = some (.int .i64 (s.most : Int)) ∧ W.cell? ⟨p, 1, none⟩ = some (.pointer (some ⟨pn, 0, none⟩)) ∧ W.cell? ⟨p, 2, none⟩ = some (.pointer nq) ∧ W.cell? ⟨p, 3, none⟩ = some (.int .i64 (s.at_ : Int))) := Lib.hid fun W hb => by
    have hq := (hb.block p (Nat.lt_of_lt_of_le (lt_heap HQ0.out) HB1.out.size)).trans ((HB1.out.block p (lt_heap HQ0.out)).trans HQ0.out)
    exact ⟨blk_cell hq 0, blk_cell hq 1, blk_cell hq 2, blk_cell hq 3⟩
  have HC1 := Lib.hid fun W (k : Below u.heap.size u W) => HC1'.out W (HB1.out.trans (k.mono HB1.out.size))
  have HC2 := Lib.hid fun W (k : Below u.heap.size u W) => HC2'.out W (HB1.out.trans (k.mono HB1.out.size))
  clear HC1' HC2' HMD
  rename_i Kc hKc
  refine wp_region_invG (fun a0 l a W => l.size = 21 ∧ a0.tmps.size = 26 ∧ Below u.heap.size u W ∧ ∃ (b1 : Nat) (F1 : Nat → Prop) (q2 : Option Addr) (F2 : Nat → Prop) (z : Nat), CpI s u l W b1 F1 q2 F2 z ∧ FrU a0 (kv ([(0, 6), (1, 7), (2, 8), (3, 9), (4, 10), (5, 11), (6, 12), (7, 13), (8, 14), (9, 15), (10, 16), (11, 17), (12, 18), (13, 19), (14, 20), (15, 21), (16, 22), (17, 23), (18, 24), (19, 25), (20, 2)] : List (Nat × Nat)) (fun i => ([.pointer (some ⟨p, 0, none⟩), .pointer (some ⟨p, 0, none⟩), .pointer (some ⟨p, 0, none⟩), .int .i64 (s.most : Int), .pointer (some ⟨p, 0, none⟩), .pointer (some ⟨p, 0, none⟩), .pointer (some ⟨p, 1, none⟩), .pointer (some ⟨pn, 0, none⟩), .pointer (some ⟨b1, 0, none⟩), .pointer (some ⟨p, 0, none⟩), .pointer (some ⟨p, 0, none⟩), .pointer (some ⟨p, 2, none⟩), .pointer nq, .pointer q2, .pointer (some ⟨p, 0, none⟩), .pointer (some ⟨p, 0, none⟩), .pointer (some ⟨p, 3, none⟩), .int .i64 (s.at_ : Int), .agg #[.int .i64 (s.most : Int), .pointer (some ⟨b1, 0, none⟩), .pointer q2, .int .i64 (s.at_ : Int)], .pointer (some ⟨z, 0, none⟩), .pointer (some ⟨z, 0, none⟩)][i]?).getD undef)) l a) ?_ ?_ ?_ ?_ ?_ ?_
  · kernel_rfl
  · exact fun _ _ _ h => h.1
  · kernel_rfl
  · exact ⟨by simp, rfl, (Below.refl _ _).drew, 0, fun _ => False, none, fun _ => False, 0, CpI.start _ _ _ _, FrU.start _ _ _⟩
  · intro l a W i5 o hI ho hn hdep
    obtain ⟨hl, hsz, hW, b1, F1, q2, F2, z, hC, hF⟩ := hI
    have x0 := (X0.out W hW).1
    have x1 := (X0.out W hW).2.1
    have x2 := (X0.out W hW).2.2.1
    have x3 := (X0.out W hW).2.2.2
    match i5, ho, hn with
    | 0, ho, hn =>
      simp only [List.getElem?_toArray, List.getElem?_cons_zero, Option.some.injEq] at ho
      subst ho
      refine ⟨rfl, ?_⟩
      have h0 : a.tmps[0]?.getD undef = .pointer (some ⟨p, 0, none⟩) := hF.baseK 0 rfl rfl
      exact owp_value (.pointer (some ⟨p, 0, none⟩)) (w' := W) (by clear hdep; go_simp) ⟨by simp [hl], hsz, hW, b1, F1, q2, F2, z, hC.plain (by decide), hF.putK 0 6 _ (by rw [hsz]; decide) rfl rfl⟩
    | 1, ho, hn =>
      simp only [List.getElem?_toArray, List.getElem?_cons_zero, List.getElem?_cons_succ, Option.some.injEq] at ho
      subst ho
      refine ⟨rfl, ?_⟩
      have h6 := hF.slotK (i := 0) (s := 6) (v := .pointer (some ⟨p, 0, none⟩)) rfl (hdep ⟨0, .data⟩ (by simp) rfl) rfl
      exact owp_value (.pointer (some ⟨p, 0, none⟩)) (w' := W) (by clear hdep; go_simp) ⟨by simp [hl], hsz, hW, b1, F1, q2, F2, z, hC.plain (by decide), hF.putK 1 7 _ (by rw [hsz]; decide) rfl rfl⟩
    | 2, ho, hn =>
      simp only [List.getElem?_toArray, List.getElem?_cons_zero, List.getElem?_cons_succ, Option.some.injEq] at ho
      subst ho
      refine ⟨rfl, ?_⟩
      have h7 := hF.slotK (i := 1) (s := 7) (v := .pointer (some ⟨p, 0, none⟩)) rfl (hdep ⟨1, .data⟩ (by simp) rfl) rfl
      exact owp_value (.pointer (some ⟨p, 0, none⟩)) (w' := W) (by clear hdep; go_simp) ⟨by simp [hl], hsz, hW, b1, F1, q2, F2, z, hC.plain (by decide), hF.putK 2 8 _ (by rw [hsz]; decide) rfl rfl⟩
    | 3, ho, hn =>
      simp only [List.getElem?_toArray, List.getElem?_cons_zero, List.getElem?_cons_succ, Option.some.injEq] at ho
      subst ho
      refine ⟨rfl, ?_⟩
      have h8 := hF.slotK (i := 2) (s := 8) (v := .pointer (some ⟨p, 0, none⟩)) rfl (hdep ⟨2, .data⟩ (by simp) rfl) rfl
      exact owp_value (.int .i64 (s.most : Int)) (w' := W) (by clear hdep; go_simp) ⟨by simp [hl], hsz, hW, b1, F1, q2, F2, z, hC.plain (by decide), hF.putK 3 9 _ (by rw [hsz]; decide) rfl rfl⟩
    | 4, ho, hn =>
      simp only [List.getElem?_toArray, List.getElem?_cons_zero, List.getElem?_cons_succ, Option.some.injEq] at ho
      subst ho
      refine ⟨rfl, ?_⟩
      have h0 : a.tmps[0]?.getD undef = .pointer (some ⟨p, 0, none⟩) := hF.baseK 0 rfl rfl
      exact owp_value (.pointer (some ⟨p, 0, none⟩)) (w' := W) (by clear hdep; go_simp) ⟨by simp [hl], hsz, hW, b1, F1, q2, F2, z, hC.plain (by decide), hF.putK 4 10 _ (by rw [hsz]; decide) rfl rfl⟩
    | 5, ho, hn =>
      simp only [List.getElem?_toArray, List.getElem?_cons_zero, List.getElem?_cons_succ, Option.some.injEq] at ho
      subst ho
      refine ⟨rfl, ?_⟩
      have h10 := hF.slotK (i := 4) (s := 10) (v := .pointer (some ⟨p, 0, none⟩)) rfl (hdep ⟨4, .data⟩ (by simp) rfl) rfl
      exact owp_value (.pointer (some ⟨p, 0, none⟩)) (w' := W) (by clear hdep; go_simp) ⟨by simp [hl], hsz, hW, b1, F1, q2, F2, z, hC.plain (by decide), hF.putK 5 11 _ (by rw [hsz]; decide) rfl rfl⟩
    | 6, ho, hn =>
      simp only [List.getElem?_toArray, List.getElem?_cons_zero, List.getElem?_cons_succ, Option.some.injEq] at ho
      subst ho
      refine ⟨rfl, ?_⟩
      have h11 := hF.slotK (i := 5) (s := 11) (v := .pointer (some ⟨p, 0, none⟩)) rfl (hdep ⟨5, .data⟩ (by simp) rfl) rfl
      exact owp_value (.pointer (some ⟨p, 1, none⟩)) (w' := W) (by clear hdep; go_simp) ⟨by simp [hl], hsz, hW, b1, F1, q2, F2, z, hC.plain (by decide), hF.putK 6 12 _ (by rw [hsz]; decide) rfl rfl⟩
    | 7, ho, hn =>
      simp only [List.getElem?_toArray, List.getElem?_cons_zero, List.getElem?_cons_succ, Option.some.injEq] at ho
      subst ho
      refine ⟨rfl, ?_⟩
      have h12 := hF.slotK (i := 6) (s := 12) (v := .pointer (some ⟨p, 1, none⟩)) rfl (hdep ⟨6, .data⟩ (by simp) rfl) rfl
      exact owp_value (.pointer (some ⟨pn, 0, none⟩)) (w' := W) (by clear hdep; go_simp) ⟨by simp [hl], hsz, hW, b1, F1, q2, F2, z, hC.plain (by decide), hF.putK 7 13 _ (by rw [hsz]; decide) rfl rfl⟩
    | 8, ho, hn =>
      simp only [List.getElem?_toArray, List.getElem?_cons_zero, List.getElem?_cons_succ, Option.some.injEq] at ho
      subst ho
      refine ⟨rfl, ?_⟩
      have h13 := hF.slotK (i := 7) (s := 13) (v := .pointer (some ⟨pn, 0, none⟩)) rfl (hdep ⟨7, .data⟩ (by simp) rfl) rfl
      refine owp_call (fn := 85) (args := #[.pointer (some ⟨pn, 0, none⟩)]) (by clear hdep; go_simp) ?_
      refine (HC1.out W hW).mono ?_
      rintro e w' ⟨c1, G1, rfl, hp, hnew, hb⟩
      have hF2 := hF.swapC (V' := (fun i => ([.pointer (some ⟨p, 0, none⟩), .pointer (some ⟨p, 0, none⟩), .pointer (some ⟨p, 0, none⟩), .int .i64 (s.most : Int), .pointer (some ⟨p, 0, none⟩), .pointer (some ⟨p, 0, none⟩), .pointer (some ⟨p, 1, none⟩), .pointer (some ⟨pn, 0, none⟩), .pointer (some ⟨c1, 0, none⟩), .pointer (some ⟨p, 0, none⟩), .pointer (some ⟨p, 0, none⟩), .pointer (some ⟨p, 2, none⟩), .pointer nq, .pointer q2, .pointer (some ⟨p, 0, none⟩), .pointer (some ⟨p, 0, none⟩), .pointer (some ⟨p, 3, none⟩), .int .i64 (s.at_ : Int), .agg #[.int .i64 (s.most : Int), .pointer (some ⟨c1, 0, none⟩), .pointer q2, .int .i64 (s.at_ : Int)], .pointer (some ⟨z, 0, none⟩), .pointer (some ⟨z, 0, none⟩)][i]?).getD undef)) (fun q hq => by
        match q, hq with
        | 0, hq => rfl
        | 1, hq => rfl
        | 2, hq => rfl
        | 3, hq => rfl
        | 4, hq => rfl
        | 5, hq => rfl
        | 6, hq => rfl
        | 7, hq => rfl
        | 8, hq => exact absurd hq (by rw [getD_tf hn]; exact Bool.false_ne_true)
        | 9, hq => rfl
        | 10, hq => rfl
        | 11, hq => rfl
        | 12, hq => rfl
        | 13, hq => rfl
        | 14, hq => rfl
        | 15, hq => rfl
        | 16, hq => rfl
        | 17, hq => rfl
        | 18, hq => exact absurd hq (hC.no18 (.inl rfl) hn (i := 18) (by decide))
        | 19, hq => rfl
        | 20, hq => rfl
        | q + 21, _ => rfl)
      exact ⟨_, rfl, by simp [hl], hsz, hW.trans (hb.mono hW.size), c1, G1, q2, F2, z, hC.c8 hn hW hb hp hnew, hF2.putK 8 14 _ (by rw [hsz]; decide) rfl rfl⟩
    | 9, ho, hn =>
      simp only [List.getElem?_toArray, List.getElem?_cons_zero, List.getElem?_cons_succ, Option.some.injEq] at ho
      subst ho
      refine ⟨rfl, ?_⟩
      have h0 : a.tmps[0]?.getD undef = .pointer (some ⟨p, 0, none⟩) := hF.baseK 0 rfl rfl
      exact owp_value (.pointer (some ⟨p, 0, none⟩)) (w' := W) (by clear hdep; go_simp) ⟨by simp [hl], hsz, hW, b1, F1, q2, F2, z, hC.plain (by decide), hF.putK 9 15 _ (by rw [hsz]; decide) rfl rfl⟩
    | 10, ho, hn =>
      simp only [List.getElem?_toArray, List.getElem?_cons_zero, List.getElem?_cons_succ, Option.some.injEq] at ho
      subst ho
      refine ⟨rfl, ?_⟩
      have h15 := hF.slotK (i := 9) (s := 15) (v := .pointer (some ⟨p, 0, none⟩)) rfl (hdep ⟨9, .data⟩ (by simp) rfl) rfl
      exact owp_value (.pointer (some ⟨p, 0, none⟩)) (w' := W) (by clear hdep; go_simp) ⟨by simp [hl], hsz, hW, b1, F1, q2, F2, z, hC.plain (by decide), hF.putK 10 16 _ (by rw [hsz]; decide) rfl rfl⟩
    | 11, ho, hn =>
      simp only [List.getElem?_toArray, List.getElem?_cons_zero, List.getElem?_cons_succ, Option.some.injEq] at ho
      subst ho
      refine ⟨rfl, ?_⟩
      have h16 := hF.slotK (i := 10) (s := 16) (v := .pointer (some ⟨p, 0, none⟩)) rfl (hdep ⟨10, .data⟩ (by simp) rfl) rfl
      exact owp_value (.pointer (some ⟨p, 2, none⟩)) (w' := W) (by clear hdep; go_simp) ⟨by simp [hl], hsz, hW, b1, F1, q2, F2, z, hC.plain (by decide), hF.putK 11 17 _ (by rw [hsz]; decide) rfl rfl⟩
    | 12, ho, hn =>
      simp only [List.getElem?_toArray, List.getElem?_cons_zero, List.getElem?_cons_succ, Option.some.injEq] at ho
      subst ho
      refine ⟨rfl, ?_⟩
      have h17 := hF.slotK (i := 11) (s := 17) (v := .pointer (some ⟨p, 2, none⟩)) rfl (hdep ⟨11, .data⟩ (by simp) rfl) rfl
      exact owp_value (.pointer nq) (w' := W) (by clear hdep; go_simp) ⟨by simp [hl], hsz, hW, b1, F1, q2, F2, z, hC.plain (by decide), hF.putK 12 18 _ (by rw [hsz]; decide) rfl rfl⟩
    | 13, ho, hn =>
      simp only [List.getElem?_toArray, List.getElem?_cons_zero, List.getElem?_cons_succ, Option.some.injEq] at ho
      subst ho
      refine ⟨rfl, ?_⟩
      have h18 := hF.slotK (i := 12) (s := 18) (v := .pointer nq) rfl (hdep ⟨12, .data⟩ (by simp) rfl) rfl
      refine owp_call (fn := 85) (args := #[.pointer nq]) (by clear hdep; go_simp) ?_
      refine (HC2.out W hW).mono ?_
      rintro e w' ⟨c2, G2, rfl, hp, hnew, hb⟩
      have hF2 := hF.swapC (V' := (fun i => ([.pointer (some ⟨p, 0, none⟩), .pointer (some ⟨p, 0, none⟩), .pointer (some ⟨p, 0, none⟩), .int .i64 (s.most : Int), .pointer (some ⟨p, 0, none⟩), .pointer (some ⟨p, 0, none⟩), .pointer (some ⟨p, 1, none⟩), .pointer (some ⟨pn, 0, none⟩), .pointer (some ⟨b1, 0, none⟩), .pointer (some ⟨p, 0, none⟩), .pointer (some ⟨p, 0, none⟩), .pointer (some ⟨p, 2, none⟩), .pointer nq, .pointer c2, .pointer (some ⟨p, 0, none⟩), .pointer (some ⟨p, 0, none⟩), .pointer (some ⟨p, 3, none⟩), .int .i64 (s.at_ : Int), .agg #[.int .i64 (s.most : Int), .pointer (some ⟨b1, 0, none⟩), .pointer c2, .int .i64 (s.at_ : Int)], .pointer (some ⟨z, 0, none⟩), .pointer (some ⟨z, 0, none⟩)][i]?).getD undef)) (fun q hq => by
        match q, hq with
        | 0, hq => rfl
        | 1, hq => rfl
        | 2, hq => rfl
        | 3, hq => rfl
        | 4, hq => rfl
        | 5, hq => rfl
        | 6, hq => rfl
        | 7, hq => rfl
        | 8, hq => rfl
        | 9, hq => rfl
        | 10, hq => rfl
        | 11, hq => rfl
        | 12, hq => rfl
        | 13, hq => exact absurd hq (by rw [getD_tf hn]; exact Bool.false_ne_true)
        | 14, hq => rfl
        | 15, hq => rfl
        | 16, hq => rfl
        | 17, hq => rfl
        | 18, hq => exact absurd hq (hC.no18 (.inr rfl) hn (i := 18) (by decide))
        | 19, hq => rfl
        | 20, hq => rfl
        | q + 21, _ => rfl)
      exact ⟨_, rfl, by simp [hl], hsz, hW.trans (hb.mono hW.size), b1, F1, c2, G2, z, hC.c13 hn hW hb hp hnew, hF2.putK 13 19 _ (by rw [hsz]; decide) rfl rfl⟩
    | 14, ho, hn =>
      simp only [List.getElem?_toArray, List.getElem?_cons_zero, List.getElem?_cons_succ, Option.some.injEq] at ho
      subst ho
      refine ⟨rfl, ?_⟩
      have h0 : a.tmps[0]?.getD undef = .pointer (some ⟨p, 0, none⟩) := hF.baseK 0 rfl rfl
      exact owp_value (.pointer (some ⟨p, 0, none⟩)) (w' := W) (by clear hdep; go_simp) ⟨by simp [hl], hsz, hW, b1, F1, q2, F2, z, hC.plain (by decide), hF.putK 14 20 _ (by rw [hsz]; decide) rfl rfl⟩
    | 15, ho, hn =>
      simp only [List.getElem?_toArray, List.getElem?_cons_zero, List.getElem?_cons_succ, Option.some.injEq] at ho
      subst ho
      refine ⟨rfl, ?_⟩
      have h20 := hF.slotK (i := 14) (s := 20) (v := .pointer (some ⟨p, 0, none⟩)) rfl (hdep ⟨14, .data⟩ (by simp) rfl) rfl
      exact owp_value (.pointer (some ⟨p, 0, none⟩)) (w' := W) (by clear hdep; go_simp) ⟨by simp [hl], hsz, hW, b1, F1, q2, F2, z, hC.plain (by decide), hF.putK 15 21 _ (by rw [hsz]; decide) rfl rfl⟩
    | 16, ho, hn =>
      simp only [List.getElem?_toArray, List.getElem?_cons_zero, List.getElem?_cons_succ, Option.some.injEq] at ho
      subst ho
      refine ⟨rfl, ?_⟩
      have h21 := hF.slotK (i := 15) (s := 21) (v := .pointer (some ⟨p, 0, none⟩)) rfl (hdep ⟨15, .data⟩ (by simp) rfl) rfl
      exact owp_value (.pointer (some ⟨p, 3, none⟩)) (w' := W) (by clear hdep; go_simp) ⟨by simp [hl], hsz, hW, b1, F1, q2, F2, z, hC.plain (by decide), hF.putK 16 22 _ (by rw [hsz]; decide) rfl rfl⟩
    | 17, ho, hn =>
      simp only [List.getElem?_toArray, List.getElem?_cons_zero, List.getElem?_cons_succ, Option.some.injEq] at ho
      subst ho
      refine ⟨rfl, ?_⟩
      have h22 := hF.slotK (i := 16) (s := 22) (v := .pointer (some ⟨p, 3, none⟩)) rfl (hdep ⟨16, .data⟩ (by simp) rfl) rfl
      exact owp_value (.int .i64 (s.at_ : Int)) (w' := W) (by clear hdep; go_simp) ⟨by simp [hl], hsz, hW, b1, F1, q2, F2, z, hC.plain (by decide), hF.putK 17 23 _ (by rw [hsz]; decide) rfl rfl⟩
    | 18, ho, hn =>
      simp only [List.getElem?_toArray, List.getElem?_cons_zero, List.getElem?_cons_succ, Option.some.injEq] at ho
      subst ho
      refine ⟨rfl, ?_⟩
      have h9 := hF.slotK (i := 3) (s := 9) (v := .int .i64 (s.most : Int)) rfl (hdep ⟨3, .data⟩ (by simp) rfl) rfl
      have h14 := hF.slotK (i := 8) (s := 14) (v := .pointer (some ⟨b1, 0, none⟩)) rfl (hdep ⟨8, .data⟩ (by simp) rfl) rfl
      have h19 := hF.slotK (i := 13) (s := 19) (v := .pointer q2) rfl (hdep ⟨13, .data⟩ (by simp) rfl) rfl
      have h23 := hF.slotK (i := 17) (s := 23) (v := .int .i64 (s.at_ : Int)) rfl (hdep ⟨17, .data⟩ (by simp) rfl) rfl
      have hbd : ∀ (W : World), (Instr.build 131 #[(0, .int .i64 (s.most : Int)), (1, .pointer (some ⟨b1, 0, none⟩)), (2, .pointer q2), (3, .int .i64 (s.at_ : Int))]).run Tryz.prog W = .ok (.agg #[.int .i64 (s.most : Int), .pointer (some ⟨b1, 0, none⟩), .pointer q2, .int .i64 (s.at_ : Int)]) W := fun W => by kernel_rfl
      exact owp_value (.agg #[.int .i64 (s.most : Int), .pointer (some ⟨b1, 0, none⟩), .pointer q2, .int .i64 (s.at_ : Int)]) (w' := W) (by clear hdep; go_simp) ⟨by simp [hl], hsz, hW, b1, F1, q2, F2, z, hC.c18 (hdep ⟨8, .data⟩ (by simp) rfl) (hdep ⟨13, .data⟩ (by simp) rfl), hF.putK 18 24 _ (by rw [hsz]; decide) rfl rfl⟩
    | 19, ho, hn =>
      simp only [List.getElem?_toArray, List.getElem?_cons_zero, List.getElem?_cons_succ, Option.some.injEq] at ho
      subst ho
      refine ⟨rfl, ?_⟩
      have h24 := hF.slotK (i := 18) (s := 24) (v := .agg #[.int .i64 (s.most : Int), .pointer (some ⟨b1, 0, none⟩), .pointer q2, .int .i64 (s.at_ : Int)]) rfl (hdep ⟨18, .data⟩ (by simp) rfl) rfl
      have hb := below_alloc W (.cells #[.int .i64 (s.most : Int), .pointer (some ⟨b1, 0, none⟩), .pointer q2, .int .i64 (s.at_ : Int)] 131)
      have hF2 := hF.swapC (V' := (fun i => ([.pointer (some ⟨p, 0, none⟩), .pointer (some ⟨p, 0, none⟩), .pointer (some ⟨p, 0, none⟩), .int .i64 (s.most : Int), .pointer (some ⟨p, 0, none⟩), .pointer (some ⟨p, 0, none⟩), .pointer (some ⟨p, 1, none⟩), .pointer (some ⟨pn, 0, none⟩), .pointer (some ⟨b1, 0, none⟩), .pointer (some ⟨p, 0, none⟩), .pointer (some ⟨p, 0, none⟩), .pointer (some ⟨p, 2, none⟩), .pointer nq, .pointer q2, .pointer (some ⟨p, 0, none⟩), .pointer (some ⟨p, 0, none⟩), .pointer (some ⟨p, 3, none⟩), .int .i64 (s.at_ : Int), .agg #[.int .i64 (s.most : Int), .pointer (some ⟨b1, 0, none⟩), .pointer q2, .int .i64 (s.at_ : Int)], .pointer (some ⟨W.heap.size, 0, none⟩), .pointer (some ⟨W.heap.size, 0, none⟩)][i]?).getD undef)) (fun q hq => by
        match q, hq with
        | 0, hq => rfl
        | 1, hq => rfl
        | 2, hq => rfl
        | 3, hq => rfl
        | 4, hq => rfl
        | 5, hq => rfl
        | 6, hq => rfl
        | 7, hq => rfl
        | 8, hq => rfl
        | 9, hq => rfl
        | 10, hq => rfl
        | 11, hq => rfl
        | 12, hq => rfl
        | 13, hq => rfl
        | 14, hq => rfl
        | 15, hq => rfl
        | 16, hq => rfl
        | 17, hq => rfl
        | 18, hq => rfl
        | 19, hq => exact absurd hq (by rw [getD_tf hn]; exact Bool.false_ne_true)
        | 20, hq => exact absurd hq (hC.no19 hn (i := 20) (by decide))
        | q + 21, _ => rfl)
      exact owp_value (.pointer (some ⟨W.heap.size, 0, none⟩)) (w' := W.alloc (.cells #[.int .i64 (s.most : Int), .pointer (some ⟨b1, 0, none⟩), .pointer q2, .int .i64 (s.at_ : Int)] 131)) (by clear hdep; go_simp) ⟨by simp [hl], hsz, hW.trans (hb.mono hW.size), b1, F1, q2, F2, W.heap.size, hC.c19 hn hW (hdep ⟨18, .data⟩ (by simp) rfl), hF2.putK 19 25 _ (by rw [hsz]; decide) rfl rfl⟩
    | 20, ho, hn =>
      simp only [List.getElem?_toArray, List.getElem?_cons_zero, List.getElem?_cons_succ, Option.some.injEq] at ho
      subst ho
      refine ⟨rfl, ?_⟩
      have h25 := hF.slotK (i := 19) (s := 25) (v := .pointer (some ⟨z, 0, none⟩)) rfl (hdep ⟨19, .data⟩ (by simp) rfl) rfl
      exact owp_value (.pointer (some ⟨z, 0, none⟩)) (w' := W) (by clear hdep; go_simp) ⟨by simp [hl], hsz, hW, b1, F1, q2, F2, z, hC.c20 (hdep ⟨19, .data⟩ (by simp) rfl), hF.putK 20 2 _ (by rw [hsz]; decide) rfl rfl⟩
    | i5 + 21, ho, hn => simp at ho
  · intro l a W1 hI hall
    obtain ⟨_, _, hW1, b1, F1, q2, F2, z, hC, hF⟩ := hI
    have hall : ∀ i, i < 21 → l.getD i false = true := hall
    have ha := FrU.allQ (K := ([(0, 6), (1, 7), (2, 8), (3, 9), (4, 10), (5, 11), (6, 12), (7, 13), (8, 14), (9, 15), (10, 16), (11, 17), (12, 18), (13, 19), (14, 20), (15, 21), (16, 22), (17, 23), (18, 24), (19, 25), (20, 2)] : List (Nat × Nat))) (V := (fun i => ([.pointer (some ⟨p, 0, none⟩), .pointer (some ⟨p, 0, none⟩), .pointer (some ⟨p, 0, none⟩), .int .i64 (s.most : Int), .pointer (some ⟨p, 0, none⟩), .pointer (some ⟨p, 0, none⟩), .pointer (some ⟨p, 1, none⟩), .pointer (some ⟨pn, 0, none⟩), .pointer (some ⟨b1, 0, none⟩), .pointer (some ⟨p, 0, none⟩), .pointer (some ⟨p, 0, none⟩), .pointer (some ⟨p, 2, none⟩), .pointer nq, .pointer q2, .pointer (some ⟨p, 0, none⟩), .pointer (some ⟨p, 0, none⟩), .pointer (some ⟨p, 3, none⟩), .int .i64 (s.at_ : Int), .agg #[.int .i64 (s.most : Int), .pointer (some ⟨b1, 0, none⟩), .pointer q2, .int .i64 (s.at_ : Int)], .pointer (some ⟨z, 0, none⟩), .pointer (some ⟨z, 0, none⟩)][i]?).getD undef)) (BL := ([(0, 6, .pointer (some ⟨p, 0, none⟩)), (1, 7, .pointer (some ⟨p, 0, none⟩)), (2, 8, .pointer (some ⟨p, 0, none⟩)), (3, 9, .int .i64 (s.most : Int)), (4, 10, .pointer (some ⟨p, 0, none⟩)), (5, 11, .pointer (some ⟨p, 0, none⟩)), (6, 12, .pointer (some ⟨p, 1, none⟩)), (7, 13, .pointer (some ⟨pn, 0, none⟩)), (8, 14, .pointer (some ⟨b1, 0, none⟩)), (9, 15, .pointer (some ⟨p, 0, none⟩)), (10, 16, .pointer (some ⟨p, 0, none⟩)), (11, 17, .pointer (some ⟨p, 2, none⟩)), (12, 18, .pointer nq), (13, 19, .pointer q2), (14, 20, .pointer (some ⟨p, 0, none⟩)), (15, 21, .pointer (some ⟨p, 0, none⟩)), (16, 22, .pointer (some ⟨p, 3, none⟩)), (17, 23, .int .i64 (s.at_ : Int)), (18, 24, .agg #[.int .i64 (s.most : Int), .pointer (some ⟨b1, 0, none⟩), .pointer q2, .int .i64 (s.at_ : Int)]), (19, 25, .pointer (some ⟨z, 0, none⟩)), (20, 2, .pointer (some ⟨z, 0, none⟩))] : List (Nat × Nat × Value))) hF rfl (n := 21) hall rfl
    subst ha
    have HW1 := Lib.hid hW1
    have HP1 := Lib.hid (hC.one (hall 8 (by decide)))
    have HP2 := Lib.hid (hC.two (hall 13 (by decide)))
    have HP3 := Lib.hid (hC.both (hall 8 (by decide)) (hall 13 (by decide)))
    have HP4 := Lib.hid (hC.box (hall 19 (by decide)))
    clear hF hall hW1 hC
    refine hKc _ _ ?_
    simp only [setAll, List.setIfInBounds_toArray, List.set_cons_succ, List.set_cons_zero]
    go_wp2_with fail
    go_ret
    obtain ⟨h1, h2⟩ := HP1.out
    obtain ⟨h3, h4⟩ := HP2.out
    obtain ⟨h5, h6, h7, h8⟩ := HP4.out
    have hb1 := HB1.out.size
    refine ⟨z, rfl, (fun k => k = z ∨ F1 k ∨ F2 k), ⟨b1, nqB q2, F1, F2, ?_, h1, fun e => (h3.1 e).elim fun b hb => ?_, .inl rfl, fun k hk => .inr (.inl hk), fun _ k hk => .inr (.inr hk), h7, fun _ => ⟨h8, fun k hk hn => HP3.out k hn hk⟩, fun k hk => ?_, HMY.out⟩, fun k hk => ?_, HB1.out.trans (HW1.out.mono HB1.out.size)⟩
    · rw [h6]
      cases hm : s.mv with
      | true =>
        obtain ⟨b, rfl, _⟩ := h3.1 hm
        rfl
      | false =>
        obtain ⟨rfl, _⟩ := h3.2 hm
        rfl
    · obtain ⟨rfl, hb⟩ := hb
      exact hb
    · rcases hk with rfl | hk | hk
      · exact lt_heap h6
      · exact footPT0.old h1 k hk
      · cases hm : s.mv with
        | true =>
          obtain ⟨b, rfl, hb⟩ := h3.1 hm
          exact footPT0.old hb k hk
        | false => exact absurd hk ((h3.2 hm).2 k)
    · rcases hk with rfl | hk | hk
      · omega
      · have := h2 k hk
        omega
      · have := h4 k hk
        omega
end
end Go.Proofs.YtimcdnbfdkpffaaGreat
/- Stage 14: the landed growing table is one that the laws speak of. -/
namespace Go.Proofs.YtimcdnbfdkpffaaGreat
set_option maxRecDepth 100000
open Go.RowKit Go.Shelf
theorem gnew_no {i : Int} (h : growI i = false) (w : World) : Calls Tryz.prog 29 #[.int .i64 i] w (ret (.tuple #[.pointer none, .int .i64 2]) w) := by
  by_cases h1 : i < 16
  · clear h
    go_enter Tryz.func29, Tryz.ntmps29
    go_wp2_with fail
    go_ret2
    exact ⟨rfl, Below.refl _ _⟩
  · by_cases h2 : 262144 < i
    · clear h
      go_enter Tryz.func29, Tryz.ntmps29
      go_wp2_with fail
      go_ret2
      exact ⟨rfl, Below.refl _ _⟩
    · obtain ⟨n, rfl⟩ := Int.eq_ofNat_of_zero_le (show 0 ≤ i by omega)
      obtain ⟨m, hm⟩ : ∃ m, m = n - 1 := ⟨_, rfl⟩
      obtain ⟨z, hz⟩ : ∃ z, z = n &&& m := ⟨_, rfl⟩
      have hza := bits_and (n := n) (m := m) (by omega) (by omega) hz
      have hmy : mayI (n : Int) = false := by
        unfold growI at h
        rwa [show decide ((16 : Int) ≤ (n : Int)) = true from decide_eq_true (by omega), Bool.true_and] at h
      have z0 : ((z : Int) != 0) = true := by
        have : z ≠ 0 := fun e => by
          have := (may_and (n := n) (by omega) (by omega)).2 (by rw [← hm, ← hz, e])
          rw [hmy] at this
          cases this
        simp
        omega
      have zm : IntKind.i64.wrap ((n : Int) - 1) = (m : Int) := by rw [IntKind.wrap_i64]; omega
      clear h hm hz hmy
      go_enter Tryz.func29, Tryz.ntmps29
      go_wp2_with fail
      go_ret2
      exact ⟨rfl, Below.refl _ _⟩
theorem gnew_yes {n : Nat} (h : growI (n : Int) = true) (w : World) : Calls Tryz.prog 29 #[.int .i64 (n : Int)] w fun e w' => ∃ p F, e = .returned (.tuple #[.pointer (some ⟨p, 0, none⟩), .int .i64 0]) ∧ PG0 w' p (Gr.new n) F ∧ (∀ k, F k → w.heap.size ≤ k) ∧ Below w.heap.size w w' := by
  unfold growI at h
  rw [Bool.and_eq_true, decide_eq_true_eq] at h
  obtain ⟨h16, hmy⟩ := h
  have hb : 8 ≤ n ∧ n ≤ 262144 := by
    obtain ⟨n', e, h1, h2⟩ := mayI_pos hmy
    omega
  have n1 : ¬ (n : Int) < 16 := by omega
  have n2 : ¬ (262144 : Int) < (n : Int) := by omega
  obtain ⟨m, hmm⟩ : ∃ m, m = n - 1 := ⟨_, rfl⟩
  have hza := bits_and (n := n) (m := m) (z := 0) (by omega) (by omega) (by rw [hmm]; exact ((may_and hb.1 hb.2).1 hmy).symm)
  have zm : IntKind.i64.wrap ((n : Int) - 1) = (m : Int) := by rw [IntKind.wrap_i64]; omega
  have HTN := Lib.hid (tabP.new 16 w (by decide))
  have HMY := Lib.hid hmy
  have hbd : ∀ (A : Option Addr) (w : World), (Instr.build 131 #[(0, .int .i64 (n : Int)), (1, .pointer A)]).run Tryz.prog w = .ok (.agg #[.int .i64 (n : Int), .pointer A, .pointer none, .int .i64 0]) w := fun A w => by kernel_rfl
  clear hb hmm h16 hmy
  go_enter Tryz.func29, Tryz.ntmps29
  go_wp2_with (first
    | (go_at_call 64
       refine HTN.out.mono ?_
       rintro e u ⟨b, G, rfl, hpt, hG, hb⟩
       have HPT := Lib.hid hpt
       have HG := Lib.hid hG
       have HB := Lib.hid hb
       clear hpt hG hb))
  go_ret2
  have hba := below_alloc u (.cells #[.int .i64 (n : Int), .pointer (some ⟨b, 0, none⟩), .pointer none, .int .i64 0] 131)
  have hz : (u.alloc (.cells #[.int .i64 (n : Int), .pointer (some ⟨b, 0, none⟩), .pointer none, .int .i64 0] 131)).heap.size = u.heap.size + 1 := by simp
  have hGo := footPT0.old HPT.out
  refine ⟨u.heap.size, fun k => k = u.heap.size ∨ G k, rfl, ⟨b, 0, G, fun _ => False, heap_alloc_new u _, pt0_step HPT.out hba, fun e => (by cases e), .inl rfl, fun k hk => .inr hk, fun e => (by cases e), fun q => ?_, fun e => (by cases e), fun k hk => ?_, HMY.out⟩, fun k hk => ?_, HB.out.trans (hba.mono HB.out.size)⟩
  · have := hGo _ q
    omega
  · rcases hk with rfl | hk
    · omega
    · have := hGo k hk
      omega
  · rcases hk with rfl | hk
    · exact HB.out.size
    · exact HG.out k hk
def gA1 : Nat := 0
theorem groP : GroP PG0 gA1 where
  foot := footPG0
  new_no := fun n w h => gnew_no h w
  new := fun n w h => gnew_yes h w
  put := fun ⟨_, _, _, _, h⟩ hs y x hy hx => gput_any h hs y x hy hx
  drop := fun ⟨_, _, _, _, h⟩ hs y x hy _ => gdrop_any h hs y x hy
  step := fun ⟨_, _, _, _, h⟩ hs => gstep_any h hs
  find := fun ⟨_, _, _, _, h⟩ hs y hy fid cap ans J HA hJ => gfind_any h hs y hy fid cap ans J HA hJ
  left := fun ⟨_, _, _, _, h⟩ hs => gleft_any h hs
  copy := fun ⟨_, _, _, _, h⟩ hs => gcopy_any h hs
end Go.Proofs.YtimcdnbfdkpffaaGreat
/- Stage 16: an object that holds a wheel, a growing table, and blocks of its own, apart from each other. -/
namespace Go.Proofs.YtimcdnbfdkpffaaGreat
set_option maxRecDepth 100000
open Go.RowKit Go.Shelf
theorem footPW : FootG PW := ⟨fun h hk hd => h.keep hk hd, fun h => h.old⟩
theorem Ext.g {F F' : Nat → Prop} {w w' : World} (h : Ext F F' w w') : ExtG F F' w w' := ⟨h.sub, h.kept⟩
/-- At pw stands the wheel W in A, at pg the growing table G in B; X are the blocks of its own. -/
structure Duo (w : World) (pw pg : Nat) (W : Wh) (G : Gr) (X A B : Nat → Prop) : Prop where
  a : PW w pw W A
  b : PG0 w pg G B
  xa : ∀ k, A k → ¬ B k ∧ ¬ X k
  xb : ∀ k, B k → ¬ X k
  xo : ∀ k, X k → k < w.heap.size
section
variable {w w' : World} {pw pg : Nat} {W W' : Wh} {G G' : Gr} {X A B A' B' : Nat → Prop}
theorem Duo.old (h : Duo w pw pg W G X A B) : ∀ k, (X k ∨ A k ∨ B k) → k < w.heap.size := fun k hk => by
  rcases hk with q | q | q
  · exact h.xo k q
  · exact footPW.old h.a k q
  · exact footPG0.old h.b k q
theorem Duo.keep (h : Duo w pw pg W G X A B) {R : Nat → Prop} (hk : Kept R w w') (hd : ∀ k, (X k ∨ A k ∨ B k) → ¬ R k) : Duo w' pw pg W G X A B :=
  ⟨footPW.keep h.a hk fun k q => hd k (.inr (.inl q)), footPG0.keep h.b hk fun k q => hd k (.inr (.inr q)), h.xa, h.xb, fun k q => Nat.lt_of_lt_of_le (h.xo k q) hk.size⟩
/-- A store into a block of its own. -/
theorem Duo.turn (h : Duo w pw pg W G X A B) (hk : Kept X w w') : Duo w' pw pg W G X A B ∧ ExtG (fun k => X k ∨ A k ∨ B k) (fun k => X k ∨ A k ∨ B k) w w' :=
  ⟨⟨footPW.keep h.a hk fun k q => (h.xa k q).2, footPG0.keep h.b hk h.xb, h.xa, h.xb, fun k q => Nat.lt_of_lt_of_le (h.xo k q) hk.size⟩, fun _ q => .inl q, hk.mono fun _ _ q => .inl q⟩
/-- A call on the wheel. -/
theorem Duo.callA {P : Program} {fn : FuncId} {args : Array Value} {Q : Ending → World → Prop} (h : Duo w pw pg W G X A B) (hc : Calls P fn args w fun e w' => Q e w' ∧ ∃ A', PW w' pw W' A' ∧ ExtG A A' w w') :
    Calls P fn args w fun e w' => Q e w' ∧ (∃ A', PW w' pw W' A' ∧ ExtG A A' w w') ∧ ∃ A', Duo w' pw pg W' G X A' B ∧ ExtG (fun k => X k ∨ A k ∨ B k) (fun k => X k ∨ A' k ∨ B k) w w' := by
  refine hc.mono ?_
  rintro e w' ⟨hq, A', hp, hx⟩
  refine ⟨hq, ⟨A', hp, hx⟩, A', ⟨hp, footPG0.keep h.b hx.kept fun k q a => (h.xa k a).1 q, fun k q => ?_, h.xb, fun k q => Nat.lt_of_lt_of_le (h.xo k q) hx.kept.size⟩, fun k q => ?_, hx.kept.mono fun _ _ q => .inr (.inl q)⟩
  · rcases hx.sub k q with r | r
    · exact h.xa k r
    · exact ⟨fun b => absurd (footPG0.old h.b k b) (by omega), fun x => absurd (h.xo k x) (by omega)⟩
  · rcases q with q | q | q
    · exact .inl (.inl q)
    · rcases hx.sub k q with r | r
      · exact .inl (.inr (.inl r))
      · exact .inr r
    · exact .inl (.inr (.inr q))
/-- A call on the growing table. -/
theorem Duo.callB {P : Program} {fn : FuncId} {args : Array Value} {Q : Ending → World → Prop} (h : Duo w pw pg W G X A B) (hc : Calls P fn args w fun e w' => Q e w' ∧ ∃ B', PG0 w' pg G' B' ∧ ExtG B B' w w') :
    Calls P fn args w fun e w' => Q e w' ∧ (∃ B', PG0 w' pg G' B' ∧ ExtG B B' w w') ∧ ∃ B', Duo w' pw pg W G' X A B' ∧ ExtG (fun k => X k ∨ A k ∨ B k) (fun k => X k ∨ A k ∨ B' k) w w' := by
  refine hc.mono ?_
  rintro e w' ⟨hq, B', hp, hx⟩
  refine ⟨hq, ⟨B', hp, hx⟩, B', ⟨footPW.keep h.a hx.kept fun k q b => (h.xa k q).1 b, hp, fun k q => ⟨fun b => ?_, (h.xa k q).2⟩, fun k q => ?_, fun k q => Nat.lt_of_lt_of_le (h.xo k q) hx.kept.size⟩, fun k q => ?_, hx.kept.mono fun _ _ q => .inr (.inr q)⟩
  · rcases hx.sub k b with r | r
    · exact (h.xa k q).1 r
    · exact absurd (footPW.old h.a k q) (by omega)
  · rcases hx.sub k q with r | r
    · exact h.xb k r
    · exact fun x => absurd (h.xo k x) (by omega)
  · rcases q with q | q | q
    · exact .inl (.inl q)
    · exact .inl (.inr (.inl q))
    · rcases hx.sub k q with r | r
      · exact .inl (.inr (.inr r))
      · exact .inr r
end
end Go.Proofs.YtimcdnbfdkpffaaGreat
/- Stage 16, landed: a wheel whose timers are for something else; which numbers of a growing table are asked about. -/
namespace Go.Proofs.YtimcdnbfdkpffaaGreat
set_option maxRecDepth 100000
open Go.RowKit Go.Shelf
namespace Wh
def reT (f : Nat → Nat) (t : Tm) : Tm := ⟨t.i, t.k, t.at_, f t.i⟩
/-- The same wheel, whose timers are for what f tells of their indices. -/
def re (w : Wh) (f : Nat → Nat) : Wh := ⟨w.a, w.l.map (reT f), w.now, w.tn⟩
theorem re_i (f : Nat → Nat) (l : List Tm) : (l.map (reT f)).map Tm.i = l.map Tm.i := by
  rw [List.map_map]
  rfl
theorem drop_re (f : Nat → Nat) (l : List Tm) (i : Int) (k : Nat) : drop (l.map (reT f)) i k = (drop l i k).map (reT f) := by
  unfold drop
  rw [List.filter_map]
  rfl
theorem find_re (w : Wh) (f : Nat → Nat) (i : Int) (k : Nat) : (w.re f).find i k = (w.find i k).map (reT f) := by
  unfold find re
  rw [List.find?_map]
  rfl
theorem re_same (w : Wh) {f g : Nat → Nat} (h : ∀ t, t ∈ w.l → f t.i = g t.i) : w.re f = w.re g := by
  unfold re
  rw [List.map_congr_left fun t ht => show reT f t = reT g t by unfold reT; rw [h t ht]]
theorem re_due (w : Wh) (f : Nat → Nat) (i : Int) (k : Nat) : (w.re f).due i k = w.due i k := by
  unfold due
  rw [find_re]
  cases w.find i k <;> rfl
theorem re_arm (w : Wh) {f g : Nat → Nat} {at_ what : Nat} (h : ∀ t, t ∈ w.l → g t.i = f t.i) (hw : ∀ i, w.a.which = some i → g i = what) : (w.re f).arm at_ what = (w.arm at_ 0).re g := by
  rw [re_same w fun t ht => (h t ht).symm]
  have e1 : (w.re g).over at_ = w.over at_ := rfl
  have e2 : (w.re g).a = w.a := rfl
  have e3 : (w.re g).nxt at_ = w.nxt at_ := rfl
  unfold arm
  rw [e1, e2, e3]
  split
  · rfl
  · cases hi : w.a.which with
    | none => rfl
    | some i =>
      unfold re
      dsimp only
      rw [List.map_append]
      unfold reT
      rw [List.map_cons, List.map_nil, hw i hi]
theorem re_again (w : Wh) (f : Nat → Nat) (i : Int) (k at_ : Nat) : (w.re f).again i k at_ = (w.again i k at_).re f := by
  unfold again
  rw [find_re]
  cases w.find i k with
  | none => rfl
  | some t =>
    have e1 : (w.re f).over at_ = w.over at_ := rfl
    have e3 : (w.re f).nxt at_ = w.nxt at_ := rfl
    show (if (w.re f).over at_ = true then w.re f else _) = _
    dsimp only
    rw [e1, e3]
    split
    · rfl
    · unfold re
      dsimp only
      rw [List.map_append, drop_re]
      rfl
theorem re_cancel (w : Wh) (f : Nat → Nat) (i : Int) (k : Nat) : (w.re f).cancel i k = (w.cancel i k).re f := by
  unfold cancel
  have e2 : (w.re f).a = w.a := rfl
  rw [e2]
  split
  · unfold re
    dsimp only
    rw [drop_re]
  · rfl
theorem fires_re (w : Wh) (f : Nat → Nat) : (w.re f).fires = w.fires.map (reT f) := by
  unfold fires re
  rw [List.filter_map]
  rfl
theorem re_told (w : Wh) (f : Nat → Nat) : (w.re f).told = w.told.map (reT f) := by
  unfold told
  rw [fires_re]
  have e : (w.re f).now = w.now := rfl
  rw [e]
  split <;> rfl
theorem re_tick (w : Wh) (f : Nat → Nat) : (w.re f).tick = w.tick.re f := by
  unfold tick
  have e : (w.re f).now = w.now := rfl
  rw [e]
  split
  · rfl
  · unfold ticked
    rw [fires_re, re_i]
    unfold re stay
    dsimp only
    rw [List.filter_map]
    rfl
theorem re_ok {w : Wh} (h : w.Ok) (f : Nat → Nat) : (w.re f).Ok := by
  refine ⟨h.a, fun t ht => ?_, fun i hi => ?_, by rw [show (w.re f).l.map Tm.i = _ from re_i f w.l]; exact h.nd, ?_, fun t ht => ?_, h.now⟩
  · obtain ⟨u, hu, rfl⟩ := List.mem_map.1 ht
    exact h.ent u hu
  · obtain ⟨u, hu, e⟩ := h.all i hi
    exact ⟨_, List.mem_map_of_mem hu, e⟩
  · show (w.l.map (reT f)).length = _
    rw [List.length_map]
    exact h.cnt
  · obtain ⟨u, hu, rfl⟩ := List.mem_map.1 ht
    exact h.fut u hu
theorem re_fit {w : Wh} {m : Nat} (h : w.Fit m) (f : Nat → Nat) : (w.re f).Fit m := ⟨re_ok h.ok f, h.n, h.ser, h.tn, h.m⟩
end Wh
namespace Gr
/-- Which numbers are asked about: those that are there. -/
theorem Kg.way {f : Nat → Nat} {s : Gr} {P : Nat → Bool} (h : Kg f s P) (H : Nat) : (∀ x, x ∈ (s.now.way H).map s.now.ew → P x = true) ∧ (s.mv = true → ∀ x, x ∈ (s.next.way H).map s.next.ew → P x = true) := by
  have key : ∀ {t : Tb} {A : Nat → Bool}, Tb.Sd f t A → ∀ x, x ∈ (t.way H).map t.ew → A x = true := fun {t A} hs x hx => by
    obtain ⟨k, hk, rfl⟩ := List.mem_map.1 hx
    have h3 := Tb.wayU_lt hs.ok H hk
    obtain ⟨i, _, ho, hk'⟩ := Tb.wayU_mem.1 hk
    unfold Tb.on at ho
    rw [hk'] at ho
    simp only [Bool.and_eq_true, beq_iff_eq] at ho
    exact (hs.own k h3 ho.1).2.2
  obtain ⟨A, B, h⟩ := h
  refine ⟨fun x hx => ?_, fun hm x hx => ?_⟩
  · rw [h.look, key h.now x hx]
    rfl
  · rw [h.look, key (h.next hm) x hx, Bool.or_true]
end Gr
end Go.Proofs.YtimcdnbfdkpffaaGreat
/- Stage 16: the landed flows in memory. -/
namespace Go.Proofs.YtimcdnbfdkpffaaGreat
set_option maxRecDepth 100000
open Go.RowKit Go.Shelf
/-- A cell of the flows' own: a timer's handle, and its flow. -/
def Fr.pc (r : Fr) : Array Value := #[.int .i64 (r.i : Int), .int .u64 (r.k : Int)] ++ r.t.c ++ #[.string r.p.v, .string r.p.n, .int .u64 (r.p.life : Int), .int .u8 (r.st : Int)]
def pz : Array Value := #[.int .i64 0, .int .u64 0] ++ tupc false 0 (fun _ => 0) (fun _ => 0) 0 0 ++ #[.string ByteArray.empty, .string ByteArray.empty, .int .u64 0, .int .u8 0]
def prow (l : List Fr) (x : Nat) : Array Value := match Fl.ix l x with
  | some r => r.pc
  | none => pz
theorem getD_mid {a b c : Array Value} {o i : Nat} (ho : a.size = o) (hi : i < b.size) : (a ++ b ++ c).getD (o + i) undef = b.getD i undef := by
  rw [Array.getD_eq_getD_getElem?, Array.getD_eq_getD_getElem?, Array.getElem?_append_left (by rw [Array.size_append, ho]; omega), Array.getElem?_append_right (by rw [ho]; omega), ho, Nat.add_sub_cancel_left]
theorem getD_end {a c : Array Value} {o i : Nat} (ho : a.size = o) : (a ++ c).getD (o + i) undef = c.getD i undef := by
  rw [Array.getD_eq_getD_getElem?, Array.getD_eq_getD_getElem?, Array.getElem?_append_right (by rw [ho]; omega), ho, Nat.add_sub_cancel_left]
theorem pc_38 (r : Fr) : (#[.int .i64 (r.i : Int), .int .u64 (r.k : Int)] ++ r.t.c : Array Value).size = 38 := by rw [Array.size_append, Tp.c_size]; rfl
theorem pc_size (r : Fr) : r.pc.size = 42 := by
  unfold Fr.pc
  rw [Array.size_append, pc_38]
  rfl
theorem pc_one (r : Fr) : r.pc.all (·.oneCell') = true := by
  unfold Fr.pc
  rw [Array.all_append, Array.all_append, Tp.c_one]
  simp [Value.oneCell']
theorem pz_size : pz.size = 42 := by
  unfold pz
  rw [Array.size_append, Array.size_append, show (tupc false 0 (fun _ => 0) (fun _ => 0) 0 0).size = 36 from rfl]
  rfl
theorem pz_one : pz.all (·.oneCell') = true := by
  unfold pz
  rw [Array.all_append, Array.all_append, tup_one]
  simp [Value.oneCell']
theorem pc_t (r : Fr) (i : Nat) (hi : i < 36) : r.pc.getD (2 + i) undef = r.t.c.getD i undef := getD_mid rfl (by rw [Tp.c_size]; exact hi)
theorem pc_p (r : Fr) (i : Nat) (hi : i < 3) : r.pc.getD (38 + i) undef = r.p.c.getD i undef := by
  refine (getD_end (pc_38 r)).trans ?_
  rcases (show i = 0 ∨ i = 1 ∨ i = 2 by omega) with rfl | rfl | rfl <;> rfl
theorem pc_s (r : Fr) : r.pc.getD 41 undef = .int .u8 (r.st : Int) := (getD_end (i := 3) (pc_38 r)).trans rfl
theorem prow_size (l : List Fr) (x : Nat) : (prow l x).size = 42 := by
  unfold prow
  split
  · exact pc_size _
  · exact pz_size
theorem prow_rem (l : List Fr) (x y : Nat) : prow (Fl.rem l x) y = if y = x then pz else prow l y := by
  unfold prow
  rw [Fl.ix_rem]
  by_cases e : y = x
  · rw [if_pos e, if_pos e]
  · rw [if_neg e, if_neg e]
theorem prow_app (l : List Fr) (r : Fr) (y : Nat) (h : Fl.ix l r.i = none) : prow (l ++ [r]) y = if y = r.i then r.pc else prow l y := by
  unfold prow
  rw [Fl.ix_app l r y h]
  by_cases e : y = r.i
  · rw [if_pos e, if_pos e]
  · rw [if_neg e, if_neg e]
theorem ix_upd (l : List Fr) (x st due y : Nat) : Fl.ix (Fl.upd l x st due) y = (Fl.ix l y).map fun r => if r.i == x then ⟨r.t, r.p, st, due, r.i, r.k⟩ else r := by
  unfold Fl.ix Fl.upd
  rw [List.find?_map]
  congr 2
  funext r
  show ((if r.i == x then (⟨r.t, r.p, st, due, r.i, r.k⟩ : Fr) else r).i == y) = _
  rw [Fl.upd_f.1]
def fcell (l : List Fr) (j : Nat) : Value := (prow l (j / 42)).getD (j % 42) undef
theorem fcell_at (l : List Fr) (x : Nat) {i : Nat} (hi : i < 42) : fcell l (x * 42 + i) = (prow l x).getD i undef := by
  unfold fcell
  rw [show (x * 42 + i) / 42 = x by omega, show (x * 42 + i) % 42 = i by omega]
theorem getD_one {cs : Array Value} (h : cs.all (·.oneCell') = true) {i : Nat} (hi : i < cs.size) : (cs.getD i undef).oneCell' = true := by
  rw [Array.getD_eq_getD_getElem?, Array.getElem?_eq_getElem hi]
  exact Array.all_eq_true.1 h i hi
/-- A struct's cells within a block's. -/
theorem rng_blk {w : World} {g : Nat} {C : Array Value} {t : TypeId} (h : w.heap[g]? = some (.cells C t (0, 0))) (o : Nat) (cs : Array Value) (hk : o + cs.size ≤ C.size) (hc : ∀ i, i < cs.size → C.getD (o + i) undef = cs.getD i undef) : w.rangeAt g o cs.toList := fun i v hv => by
  have hi : i < cs.size := by
    rcases Nat.lt_or_ge i cs.size with q | q
    · exact q
    · rw [List.getElem?_eq_none (by simpa using q)] at hv
      cases hv
  have h1 := hc i hi
  rw [Array.getElem?_toList] at hv
  rw [Array.getD_eq_getD_getElem?, Array.getD_eq_getD_getElem?, hv, Array.getElem?_eq_getElem (by omega : o + i < C.size)] at h1
  have h1 : C[o + i] = v := h1
  rw [← h1, blk_cell h (o + i)]
  exact Array.getElem?_eq_getElem (by omega)
/-- The blocks of landed flows. -/
def FF (p b : Nat) (A B : Nat → Prop) (k : Nat) : Prop := (k = p ∨ k = b) ∨ A k ∨ B k
def fxc (pw pg b n c o1 o2 o3 o4 : Nat) : Array Value := #[.pointer (some ⟨pw, 0, none⟩), .pointer (some ⟨pg, 0, none⟩), .int .u32 (o1 : Int), .int .u32 (o2 : Int), .int .u32 (o3 : Int), .int .u32 (o4 : Int), .slice (some ⟨b, 0, none⟩) n c]
/-- Landed flows at p, as fields: the wheel W, the growing table G, n cells in which the flows of l stand, timeouts. -/
structure FX (w : World) (p pw pg b n c o1 o2 o3 o4 : Nat) (l : List Fr) (W : Wh) (G : Gr) (A B : Nat → Prop) : Prop where
  blk : w.heap[p]? = some (.cells (fxc pw pg b n c o1 o2 o3 o4) 68 (0, 0))
  row : OwnC w 0 97 42 (some ⟨b, 0, none⟩) n c (fcell l)
  duo : Duo w pw pg W G (fun k => k = p ∨ k = b) A B
section
variable {w w' : World} {p pw pg b n c o1 o2 o3 o4 : Nat} {l l' : List Fr} {W W' : Wh} {G G' : Gr} {A B A' B' : Nat → Prop}
theorem FX.pb (h : FX w p pw pg b n c o1 o2 o3 o4 l W G A B) : p ≠ b := OwnC.ne h.row h.blk (by decide)
theorem FX.pold (h : FX w p pw pg b n c o1 o2 o3 o4 l W G A B) : p < w.heap.size := lt_heap h.blk
theorem FX.bold (h : FX w p pw pg b n c o1 o2 o3 o4 l W G A B) : b < w.heap.size := h.duo.xo b (.inr rfl)
theorem FX.old (h : FX w p pw pg b n c o1 o2 o3 o4 l W G A B) : ∀ k, FF p b A B k → k < w.heap.size := h.duo.old
theorem FX.keep {R : Nat → Prop} (h : FX w p pw pg b n c o1 o2 o3 o4 l W G A B) (hk : Kept R w w') (hd : ∀ k, FF p b A B k → ¬ R k) : FX w' p pw pg b n c o1 o2 o3 o4 l W G A B :=
  ⟨(hk.block p h.pold (hd p (.inl (.inl rfl)))).trans h.blk, h.row.block (hk.block b h.bold (hd b (.inl (.inr rfl)))), h.duo.keep hk hd⟩
theorem FX.step (h : FX w p pw pg b n c o1 o2 o3 o4 l W G A B) (hb : Below w.heap.size w w') : FX w' p pw pg b n c o1 o2 o3 o4 l W G A B := h.keep (Kept.of_below hb fun _ => False) fun _ _ q => q
theorem FX.callW {P : Program} {fn : FuncId} {args : Array Value} {Q : Ending → World → Prop} (h : FX w p pw pg b n c o1 o2 o3 o4 l W G A B) (hc : Calls P fn args w fun e w' => Q e w' ∧ ∃ A', PW w' pw W' A' ∧ Ext A A' w w') :
    Calls P fn args w fun e w' => Q e w' ∧ ∃ A', FX w' p pw pg b n c o1 o2 o3 o4 l W' G A' B ∧ ExtG (FF p b A B) (FF p b A' B) w w' := by
  refine (h.duo.callA (Q := Q) (hc.mono fun e w' hh => ⟨hh.1, hh.2.elim fun A' q => ⟨A', q.1, q.2.g⟩⟩)).mono ?_
  rintro e w' ⟨q, ⟨A2, _, hx2⟩, A', hD, hx⟩
  exact ⟨q, A', ⟨(hx2.kept.block p h.pold fun a => (h.duo.xa p a).2 (.inl rfl)).trans h.blk, h.row.block (hx2.kept.block b h.bold fun a => (h.duo.xa b a).2 (.inr rfl)), hD⟩, hx⟩
theorem FX.callG {P : Program} {fn : FuncId} {args : Array Value} {Q : Ending → World → Prop} (h : FX w p pw pg b n c o1 o2 o3 o4 l W G A B) (hc : Calls P fn args w fun e w' => Q e w' ∧ ∃ B', PG0 w' pg G' B' ∧ ExtG B B' w w') :
    Calls P fn args w fun e w' => Q e w' ∧ ∃ B', FX w' p pw pg b n c o1 o2 o3 o4 l W G' A B' ∧ ExtG (FF p b A B) (FF p b A B') w w' := by
  refine (h.duo.callB (Q := Q) hc).mono ?_
  rintro e w' ⟨q, ⟨A2, _, hx2⟩, A', hD, hx⟩
  exact ⟨q, A', ⟨(hx2.kept.block p h.pold fun a => h.duo.xb p a (.inl rfl)).trans h.blk, h.row.block (hx2.kept.block b h.bold fun a => h.duo.xb b a (.inr rfl)), hD⟩, hx⟩
/-- Its own blocks turned. -/
theorem FX.turn {m1 m2 m3 m4 : Nat} (h : FX w p pw pg b n c o1 o2 o3 o4 l W G A B) (hk : Kept (fun k => k = p ∨ k = b) w w') (hb : w'.heap[p]? = some (.cells (fxc pw pg b n c m1 m2 m3 m4) 68 (0, 0))) (hr : OwnC w' 0 97 42 (some ⟨b, 0, none⟩) n c (fcell l')) :
    FX w' p pw pg b n c m1 m2 m3 m4 l' W G A B ∧ ExtG (FF p b A B) (FF p b A B) w w' := by
  obtain ⟨hD, hx⟩ := h.duo.turn hk
  exact ⟨⟨hb, hr, hD⟩, hx⟩
theorem FX.lies (h : FX w p pw pg b n c o1 o2 o3 o4 l W G A B) {x : Nat} (hx : x < n) {i : Nat} (hi : i < 42) : w.cell? ⟨b, x * 42 + i, none⟩ = some ((prow l x).getD i undef) ∧ w.frozen? ⟨b, x * 42 + i, none⟩ = false := by
  obtain ⟨g', e, _, _, hc, hf⟩ := h.row.lies (by omega)
  injection e with e
  injection e with e
  subst e
  exact ⟨(hc _ (by omega)).trans (congrArg some (fcell_at l x hi)), hf _⟩
theorem FX.rng (h : FX w p pw pg b n c o1 o2 o3 o4 l W G A B) {x : Nat} (hx : x < n) (o : Nat) (cs : Array Value) (hk : o + cs.size ≤ 42) (hc : ∀ i, i < cs.size → (prow l x).getD (o + i) undef = cs.getD i undef) : w.rangeAt b (x * 42 + o) cs.toList := fun i v hv => by
  have hi : i < cs.size := by
    rcases Nat.lt_or_ge i cs.size with q | q
    · exact q
    · rw [List.getElem?_eq_none (by simpa using q)] at hv
      cases hv
  rw [Nat.add_assoc, (h.lies hx (by omega : o + i < 42)).1, hc i hi]
  rw [Array.getElem?_toList] at hv
  rw [Array.getD_eq_getD_getElem?, hv]
  rfl
theorem FX.there (h : FX w p pw pg b n c o1 o2 o3 o4 l W G A B) {x : Nat} (hx : x < n) : w.there b (x * 42) 42 := fun k hk => by
  obtain ⟨h1, h2⟩ := h.lies hx hk
  exact ⟨by rw [h1]; rfl, h2⟩
/-- A whole cell laid. -/
theorem own_laid {e : TypeId} {base sz g : Nat} : ∀ (vs : List Value) (o : Nat) {w : World} {f : Nat → Value}, OwnC w base e sz (some ⟨g, 0, none⟩) n c f → OwnC (w.setCells g o vs) base e sz (some ⟨g, 0, none⟩) n c (fun j => if o ≤ j ∧ j < o + vs.length then vs.getD (j - o) undef else f j)
  | [], o, w, f, h => h.same fun j _ => if_neg fun q => by
      have : j < o + 0 := q.2
      omega
  | v :: vs, o, w, f, h => by
    refine (own_laid vs (o + 1) (h.set_ o v)).same fun j _ => ?_
    unfold updV
    rw [List.length_cons]
    by_cases e : j = o
    · subst e
      rw [if_pos ⟨Nat.le_refl _, by omega⟩, if_neg (by omega), if_pos rfl, Nat.sub_self]
      rfl
    · by_cases q : o + 1 ≤ j ∧ j < o + 1 + vs.length
      · rw [if_pos q, if_pos (by omega), show j - o = (j - (o + 1)) + 1 by omega]
        rfl
      · rw [if_neg q, if_neg (by omega), if_neg e]
theorem FX.put (h : FX w p pw pg b n c o1 o2 o3 o4 l W G A B) (x : Nat) (cs : Array Value) (hcs : cs.size = 42) (hl : ∀ y, prow l' y = if y = x then cs else prow l y) :
    FX (w.setCells b (x * 42) cs.toList) p pw pg b n c o1 o2 o3 o4 l' W G A B ∧ ExtG (FF p b A B) (FF p b A B) w (w.setCells b (x * 42) cs.toList) := by
  refine h.turn ((Kept.refl _ w).setCells (.inl (.inr rfl)) _ _) ((other_setCells h.pb _ _ _).trans h.blk) ((own_laid cs.toList (x * 42) h.row).same fun j _ => ?_)
  rw [Array.length_toList, hcs]
  unfold fcell
  rw [hl (j / 42)]
  by_cases e : x * 42 ≤ j ∧ j < x * 42 + 42
  · rw [if_pos (show j / 42 = x by omega), if_pos e, show j - x * 42 = j % 42 by omega, Array.getD_eq_getD_getElem?, List.getD_eq_getElem?_getD, Array.getElem?_toList]
  · rw [if_neg (show ¬ j / 42 = x by omega), if_neg e]
end
/-- At p stands what is s, in landed flows. -/
def PF0 (w : World) (p : Nat) (s : Fl) (F : Nat → Prop) : Prop := ∃ pw pg b c A B, FX w p pw pg b s.w.a.has.length c s.o1 s.o2 s.o3 s.o4 s.l (s.w.re (Fl.hf s.l)) s.g A B ∧ F = FF p b A B
theorem footPF0 : FootG PF0 := by
  refine ⟨fun h hk hd => ?_, fun h => ?_⟩
  · obtain ⟨pw, pg, b, c, A, B, hx, rfl⟩ := h
    exact ⟨pw, pg, b, c, A, B, hx.keep hk hd, rfl⟩
  · obtain ⟨pw, pg, b, c, A, B, hx, rfl⟩ := h
    exact hx.old
end Go.Proofs.YtimcdnbfdkpffaaGreat
