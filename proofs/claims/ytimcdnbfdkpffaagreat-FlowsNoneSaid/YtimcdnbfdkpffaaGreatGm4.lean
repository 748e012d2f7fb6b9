import Derived.Test.YtimcdnbfdkpffaaGreatGm1
import Derived.Test.YtimcdnbfdkpffaaGreatGm3
import Derived.Test.YtimcdnbfdkpffaaGreatGm0
import Derived.Test.YtimcdnbfdkpffaaGreatGm2
import Derived.ChangeMaps5
/- Stage 16: what a growing table of flows keeps, in pure words. -/
namespace Go.Proofs.YtimcdnbfdkpffaaGreat
set_option maxRecDepth 100000
theorem szF_get : ∀ f {n m : Nat}, m ≤ n * 2 ^ f → m ≤ szF f n m
  | 0, n, m, h => by
    unfold szF
    omega
  | f + 1, n, m, h => by
    unfold szF
    split
    · exact szF_get f (by rw [Nat.pow_succ, ← Nat.mul_assoc] at h; rw [Nat.mul_comm 2 n, Nat.mul_assoc, Nat.mul_comm 2 (2 ^ f), ← Nat.mul_assoc]; exact h)
    · omega
theorem szN_get {m : Nat} (h : m ≤ 1048576) : m ≤ szN m := szF_get 20 (by omega)
namespace Gr
open Tb
/-- Just the numbers of P, x under the hash f x, are in a growing table that has room: A in the one of now, B in the next one. -/
structure Kx (f : Nat → Nat) (s : Gr) (P : Nat → Bool) (A B : Nat → Bool) : Prop where
  ok : s.Ok
  now : Sd f s.now A
  next : s.mv = true → Sd f s.next B
  off : s.mv = false → ∀ x, B x = false
  dis : ∀ x, A x = true → B x = false
  look : ∀ x, P x = (A x || B x)
  top : s.now.n ≤ s.most
  topx : s.mv = true → s.next.n ≤ s.most
  room : s.mv = false → s.now.entries + s.now.marks ≤ s.now.n / 4 * 3
  roomx : s.mv = true → s.next.entries + s.next.marks + s.now.entries ≤ s.next.n / 4 * 3
  gone : s.mv = true → ∀ k, k < s.at_ → s.now.ful k = false
section
variable {f : Nat → Nat} {s : Gr} {P : Nat → Bool} {A B : Nat → Bool}
theorem cntI_none (n : Nat) : cntI (fun _ => false) n = 0 := cntI_zero fun _ _ => rfl
theorem kx_new {m : Nat} (h : 16 ≤ m) (h' : m ≤ 262144) : Kx f (new m) (fun _ => false) (fun _ => false) (fun _ => false) := by
  exact ⟨ok_new h h', sd_new (by decide) (by decide), fun e => (by cases e), fun _ _ => rfl, fun _ h => (by cases h), fun _ => rfl, h, fun e => (by cases e), fun _ => (show (Tb.new 16).entries + (Tb.new 16).marks ≤ 16 / 4 * 3 by decide), fun e => (by cases e), fun e => (by cases e)⟩
theorem Kx.begun_ (h : Kx f s P A B) : Kx f s.begun P A B := by
  unfold begun
  split
  · rename_i hb
    have hmv : s.mv = false := by
      unfold begs at hb
      cases e : s.mv with
      | false => rfl
      | true => rw [e] at hb; cases hb
    have hso := size_ok h.ok
    have he : s.now.entries ≤ s.size / 4 * 3 := by
      have h1 := h.room hmv
      have h2 := h.top
      have h4 := h.ok.top
      have h3 := szN_get (m := 4 * s.now.entries) (by omega)
      unfold size
      split <;> omega
    have hs128 : s.size ≤ s.most := by
      unfold size
      split <;> omega
    have e1 : (Tb.new s.size).entries = 0 := cntI_none _
    have e2 : (Tb.new s.size).marks = 0 := cntI_none _
    have hB := h.off hmv
    refine ⟨⟨h.ok.now, fun _ => Tb.ok_new (by omega) hso.2, h.ok.low, h.ok.top, fun _ => h.ok.now.pos⟩, h.now, fun _ => (sd_new (by omega) hso.2).same fun x => (hB x).symm, fun e => (by cases e), h.dis, h.look, h.top, fun _ => hs128, fun e => (by cases e), fun _ => ?_, fun _ k hk => absurd hk (Nat.not_lt_zero _)⟩
    · show (Tb.new s.size).entries + (Tb.new s.size).marks + s.now.entries ≤ s.size / 4 * 3
      rw [e1, e2]
      omega
  · exact h
/-- A number that is not there is put, if it has room. -/
theorem Kx.laid_ (h : Kx f s P A B) {x : Nat} (hx : x < 256) (hfx : f x < 18446744073709551616) (hm : P x = false) (hf : s.full = false) :
    s.tgt.ptE (f x) = 0 ∧ ∃ A' B', Kx f (s.laid (f x) x) (updB P x true) A' B' := by
  have hAB := h.look x
  rw [hm] at hAB
  have hA : A x = false := by cases e : A x with | false => rfl | true => rw [e] at hAB; cases hAB
  have hB : B x = false := by cases e : B x with | false => rfl | true => rw [e, hA] at hAB; cases hAB
  have hfull : ¬ s.tgt.n / 4 * 3 < s.tgt.entries + s.tgt.marks + s.more + 1 := by
    unfold full at hf
    simpa using hf
  have hlk : ∀ y, updB P x true y = if y = x then true else (A y || B y) := fun y => by unfold updB; rw [h.look]
  cases hmv : s.mv with
  | true =>
    have e1 : s.tgt = s.next := by unfold tgt; rw [hmv]; rfl
    have e2 : s.more = s.now.entries := by unfold more; rw [hmv]; rfl
    rw [e1, e2] at hfull
    obtain ⟨i, hi⟩ := free_room (h.next hmv).ok (f x) (by have := (h.next hmv).ok.pos; omega)
    obtain ⟨p1, p2, p3⟩ := (h.next hmv).put_new hx hfx hB hi
    obtain ⟨q1, q2⟩ := pt_some (x := x) hi
    rw [e1]
    refine ⟨q2, A, updB B x true, ?_⟩
    have el : s.laid (f x) x = ⟨s.now, s.next.pt (f x) x, true, s.most, s.at_⟩ := by unfold laid; rw [hmv]; rfl
    have hok := ok_laid h.ok (h := f x) (x := x) hfx (by omega)
    rw [el, q1] at hok ⊢
    refine ⟨hok, h.now, fun _ => p1, fun e => (by cases e), fun y hy => ?_, fun y => ?_, h.top, fun _ => h.topx hmv, fun e => (by cases e), fun _ => ?_, fun _ => h.gone hmv⟩
    · have hyx : y ≠ x := fun e => by rw [e, hA] at hy; cases hy
      rw [updB_ne hyx]
      exact h.dis y hy
    · rw [hlk]
      unfold updB
      split
      · rw [Bool.or_true]
      · rfl
    · show (s.next.put (s.next.st (f x) i) (f x) x).entries + (s.next.put (s.next.st (f x) i) (f x) x).marks + s.now.entries ≤ s.next.n / 4 * 3
      omega
  | false =>
    have e1 : s.tgt = s.now := by unfold tgt; rw [hmv]; rfl
    have e2 : s.more = 0 := by unfold more; rw [hmv]; rfl
    rw [e1, e2] at hfull
    obtain ⟨i, hi⟩ := free_room h.now.ok (f x) (by have := h.now.ok.pos; omega)
    obtain ⟨p1, p2, p3⟩ := h.now.put_new hx hfx hA hi
    obtain ⟨q1, q2⟩ := pt_some (x := x) hi
    rw [e1]
    refine ⟨q2, updB A x true, B, ?_⟩
    have el : s.laid (f x) x = ⟨s.now.pt (f x) x, s.next, false, s.most, s.at_⟩ := by unfold laid; rw [hmv]; rfl
    have hok := ok_laid h.ok (h := f x) (x := x) hfx (by omega)
    rw [el, q1] at hok ⊢
    have hB' := h.off hmv
    refine ⟨hok, p1, fun e => (by cases e), fun _ => hB', fun y _ => hB' y, fun y => ?_, h.top, fun e => (by cases e), fun _ => ?_, fun e => (by cases e), fun e => (by cases e)⟩
    · rw [hlk]
      unfold updB
      split
      · rfl
      · rfl
    · show (s.now.put (s.now.st (f x) i) (f x) x).entries + (s.now.put (s.now.st (f x) i) (f x) x).marks ≤ s.now.n / 4 * 3
      omega
theorem updB_same {x : Nat} {v : Bool} (hm : P x = v) : updB P x v = P := funext fun y => by
  unfold updB
  split
  · rename_i e
    rw [e, hm]
  · rfl
theorem Kx.put_ (h : Kx f s P A B) {x : Nat} (hx : x < 256) (hfx : f x < 18446744073709551616) (hm : P x = false) :
    (s.ptE (f x) = 0 ∨ s.ptE (f x) = 9) ∧ ∃ A' B', Kx f (s.pt (f x) x) (updB P x (decide (s.ptE (f x) = 0))) A' B' := by
  have hb := h.begun_
  cases hf : s.begun.full with
  | true =>
    have e1 : s.pt (f x) x = s.begun := by unfold pt; rw [hf]; rfl
    have e2 : s.ptE (f x) = 9 := by unfold ptE; rw [hf]; rfl
    rw [e1, e2]
    rw [show decide ((9 : Int) = 0) = false from rfl, updB_same hm]
    exact ⟨.inr rfl, A, B, hb⟩
  | false =>
    obtain ⟨h1, h2⟩ := hb.laid_ hx hfx hm hf
    have e1 : s.pt (f x) x = s.begun.laid (f x) x := by unfold pt; rw [hf]; rfl
    have e2 : s.ptE (f x) = 0 := by unfold ptE; rw [hf]; exact h1
    rw [e1, e2]
    exact ⟨.inl rfl, h2⟩
/-- One that is there is dropped. -/
theorem Kx.drop_ (h : Kx f s P A B) {x : Nat} (hm : P x = true) : s.drE (f x) x = 0 ∧ ∃ A' B', Kx f (s.dr (f x) x) (updB P x false) A' B' := by
  have hAB := h.look x
  rw [hm] at hAB
  have hlk : ∀ y, updB P x false y = if y = x then false else (A y || B y) := fun y => by unfold updB; rw [h.look]
  cases hA : A x with
  | true =>
    obtain ⟨k, e, hk, hf, hw, hh⟩ := h.now.find_yes hA
    obtain ⟨p1, p2, p3⟩ := h.now.drop hk hf hw
    obtain ⟨q1, q2⟩ := dr_nat hk hf
    have e1 : s.dr (f x) x = ⟨s.now.dr (k : Int), s.next, s.mv, s.most, s.at_⟩ := by unfold dr; rw [e]
    have e2 : s.drE (f x) x = 0 := by unfold drE; rw [e]; exact q2
    have hok := ok_dr h.ok (f x) x
    rw [e1, q1] at hok
    rw [e1, e2, q1]
    refine ⟨rfl, updB A x false, B, hok, p1, h.next, h.off, fun y hy => ?_, fun y => ?_, h.top, h.topx, fun e => ?_, fun e => ?_, fun e j hj => ?_⟩
    · by_cases ey : y = x
      · rw [ey, updB_at] at hy
        cases hy
      · rw [updB_ne ey] at hy
        exact h.dis y hy
    · rw [hlk]
      by_cases ey : y = x
      · rw [if_pos ey, ey, updB_at, h.dis x hA]
        rfl
      · rw [if_neg ey, updB_ne ey]
    · have := h.room e
      show (s.now.gone k).entries + (s.now.gone k).marks ≤ s.now.n / 4 * 3
      omega
    · have := h.roomx e
      show s.next.entries + s.next.marks + (s.now.gone k).entries ≤ s.next.n / 4 * 3
      omega
    · cases hg : (s.now.gone k).ful j with
      | false => rfl
      | true =>
        have := (gone_ful j hg).2
        rw [h.gone e j hj] at this
        cases this
  | false =>
    have hB : B x = true := by rw [hA] at hAB; exact hAB.symm
    have hmv : s.mv = true := by
      cases e : s.mv with
      | true => rfl
      | false => rw [h.off e x] at hB; cases hB
    have hn := h.now.find_no (g := f x) hA
    obtain ⟨k, e, hk, hf, hw, hh⟩ := (h.next hmv).find_yes hB
    obtain ⟨p1, p2, p3⟩ := (h.next hmv).drop hk hf hw
    obtain ⟨q1, q2⟩ := dr_nat hk hf
    have e1 : s.dr (f x) x = ⟨s.now, s.next.dr (k : Int), s.mv, s.most, s.at_⟩ := by unfold dr; rw [hn, hmv, e]; rfl
    have e2 : s.drE (f x) x = 0 := by unfold drE; rw [hn, hmv, e]; exact q2
    have hok := ok_dr h.ok (f x) x
    rw [e1, q1] at hok
    rw [e1, e2, q1]
    refine ⟨rfl, A, updB B x false, hok, h.now, fun _ => p1, fun e => absurd hmv (by rw [show s.mv = false from e]; exact Bool.false_ne_true), fun y hy => ?_, fun y => ?_, h.top, h.topx, fun e => absurd hmv (by rw [show s.mv = false from e]; exact Bool.false_ne_true), fun _ => ?_, fun _ => h.gone hmv⟩
    · have := h.dis y hy
      unfold updB
      split
      · rfl
      · exact this
    · rw [hlk]
      by_cases ey : y = x
      · rw [if_pos ey, ey, updB_at, hA]
        rfl
      · rw [if_neg ey, updB_ne ey]
    · have := h.roomx hmv
      show (s.next.gone k).entries + (s.next.gone k).marks + s.now.entries ≤ s.next.n / 4 * 3
      omega
/-- A step's move. -/
theorem Kx.moved_ (h : Kx f s P A B) (hfx : ∀ x, x < 256 → f x < 18446744073709551616) (hmv : s.mv = true) : (∃ A' B', Kx f s.moved P A' B') ∧ s.moved.now.ful s.at_ = false := by
  have hcur := h.ok.cur hmv
  cases hf : s.now.isF (s.at_ : Int) with
  | false =>
    have e1 : s.moved = s := by unfold moved; rw [hf]; rfl
    rw [isF_nat hcur] at hf
    rw [e1]
    exact ⟨⟨A, B, h⟩, hf⟩
  | true =>
    have hf' := hf
    rw [isF_nat hcur] at hf'
    obtain ⟨o1, o2, o3⟩ := h.now.own _ hcur hf'
    obtain ⟨x, hx⟩ : ∃ x, x = s.now.ew s.at_ := ⟨_, rfl⟩
    rw [← hx] at o1 o2 o3
    have hBx := h.dis x o3
    obtain ⟨q1, q2⟩ := dr_nat hcur hf'
    obtain ⟨p1, p2, p3⟩ := h.now.drop hcur hf' hx.symm
    have hr := h.roomx hmv
    obtain ⟨i, hi⟩ := free_room (h.next hmv).ok (f x) (by have := (h.next hmv).ok.pos; omega)
    obtain ⟨r1, r2, r3⟩ := (h.next hmv).put_new o1 (hfx x o1) hBx hi
    obtain ⟨t1, t2⟩ := pt_some (x := x) hi
    have e1 : s.moved = ⟨s.now.dr (s.at_ : Int), s.next.pt (s.now.eh s.at_) (s.now.ew s.at_), s.mv, s.most, s.at_⟩ := by unfold moved; rw [hf]; rfl
    have hok := ok_moved h.ok hmv
    rw [e1, ← hx, o2, q1, t1] at hok
    rw [e1, ← hx, o2, q1, t1]
    refine ⟨⟨updB A x false, updB B x true, hok, p1, fun _ => r1, fun e => absurd hmv (by rw [show s.mv = false from e]; exact Bool.false_ne_true), fun y hy => ?_, fun y => ?_, h.top, h.topx, fun e => absurd hmv (by rw [show s.mv = false from e]; exact Bool.false_ne_true), fun _ => ?_, fun _ j hj => ?_⟩, ?_⟩
    · by_cases ey : y = x
      · rw [ey, updB_at] at hy
        cases hy
      · rw [updB_ne ey] at hy ⊢
        exact h.dis y hy
    · rw [h.look]
      by_cases ey : y = x
      · rw [ey, updB_at, updB_at, o3]
        rfl
      · rw [updB_ne ey, updB_ne ey]
    · show (s.next.put (s.next.st (f x) i) (f x) x).entries + (s.next.put (s.next.st (f x) i) (f x) x).marks + (s.now.gone s.at_).entries ≤ s.next.n / 4 * 3
      omega
    · cases hg : (s.now.gone s.at_).ful j with
      | false => rfl
      | true =>
        have := (gone_ful j hg).2
        rw [h.gone hmv j hj] at this
        cases this
    · exact updB_at ..
theorem Kx.on_ (h : Kx f s P A B) (hmv : s.mv = true) (hl : s.now.ful s.at_ = false) : ∃ A' B', Kx f s.on P A' B' := by
  have hok := ok_on h.ok hmv
  have hcur := h.ok.cur hmv
  unfold on at hok ⊢
  by_cases e : s.at_ + 1 = s.now.n
  · rw [if_pos e] at hok ⊢
    have hno : ∀ k, k < s.now.n → s.now.ful k = false := fun k hk => by
      rcases Nat.lt_or_ge k s.at_ with q | q
      · exact h.gone hmv k q
      · rw [show k = s.at_ by omega]
        exact hl
    have hA : ∀ x, A x = false := fun x => by
      cases ea : A x with
      | false => rfl
      | true =>
        obtain ⟨k, hk, hf, _⟩ := h.now.has x ea
        rw [hno k hk] at hf
        cases hf
    have he : s.now.entries = 0 := cntI_zero hno
    refine ⟨B, fun _ => false, hok, h.next hmv, fun e => (by cases e), fun _ _ => rfl, fun _ _ => rfl, fun x => ?_, h.topx hmv, fun e => (by cases e), fun _ => ?_, fun e => (by cases e), fun e => (by cases e)⟩
    · rw [h.look, hA x, Bool.or_false, Bool.false_or]
    · have := h.roomx hmv
      show s.next.entries + s.next.marks ≤ s.next.n / 4 * 3
      omega
  · rw [if_neg e] at hok ⊢
    refine ⟨A, B, hok, h.now, h.next, h.off, h.dis, h.look, h.top, h.topx, h.room, h.roomx, fun _ k hk => ?_⟩
    have hk : k < s.at_ + 1 := hk
    rcases Nat.lt_or_ge k s.at_ with q | q
    · exact h.gone hmv k q
    · show s.now.ful k = false
      rw [show k = s.at_ by omega]
      exact hl
theorem Kx.st_ (h : Kx f s P A B) (hfx : ∀ x, x < 256 → f x < 18446744073709551616) : ∃ A' B', Kx f s.st P A' B' := by
  unfold st
  split
  · rename_i hmv
    obtain ⟨⟨A', B', h1⟩, h2⟩ := h.moved_ hfx hmv
    exact h1.on_ (by rw [moved_mv]; exact hmv) (by rw [moved_at]; exact h2)
  · exact ⟨A, B, h⟩
/-- A hash that is told anew, where there is no entry. -/
theorem sd_fun {f g : Nat → Nat} {t : Tb} {A : Nat → Bool} (h : Sd f t A) (e : ∀ x, A x = true → g x = f x) : Sd g t A :=
  ⟨h.ok, fun k hk hf => by
    obtain ⟨o1, o2, o3⟩ := h.own k hk hf
    exact ⟨o1, by rw [e _ o3]; exact o2, o3⟩, h.one, h.has, h.rch⟩
theorem Kx.fun_ {g : Nat → Nat} (h : Kx f s P A B) (e : ∀ x, P x = true → g x = f x) : Kx g s P A B :=
  ⟨h.ok, sd_fun h.now fun x hx => e x (by rw [h.look, hx]; rfl), fun m => sd_fun (h.next m) fun x hx => e x (by rw [h.look, hx, Bool.or_true]), h.off, h.dis, h.look, h.top, h.topx, h.room, h.roomx, h.gone⟩
/-- What is there once of a hash and an answer is told; nothing, where there is none. -/
theorem fn_one {t : Tb} {A : Nat → Bool} (h : Sd f t A) {H x : Nat} {ans : Nat → Bool} (hx : A x = true) (hH : f x = H) (ha : ∀ y, A y = true → f y = H → (ans y = true ↔ y = x)) : ∃ k, t.fn H ans = some k ∧ t.ew k = x := by
  obtain ⟨k, e, hk, hf, hw, hh⟩ := h.find_yes hx
  have hm : k ∈ t.way (f x) := List.mem_of_find?_eq_some e
  unfold Tb.fn
  cases hq : (t.way H).find? (fun k => ans (t.ew k)) with
  | none =>
    have := List.find?_eq_none.1 hq k (by rw [← hH]; exact hm)
    rw [hw, (ha x hx hH).2 rfl] at this
    exact absurd rfl this
  | some k' =>
    have h1 := List.mem_of_find?_eq_some hq
    have h2 : ans (t.ew k') = true := List.find?_some (p := fun k => ans (t.ew k)) hq
    have h3 := wayU_lt h.ok H h1
    obtain ⟨i, _, ho, hk'⟩ := wayU_mem.1 h1
    unfold Tb.on at ho
    rw [hk'] at ho
    simp only [Bool.and_eq_true, beq_iff_eq] at ho
    obtain ⟨o1, o2, o3⟩ := h.own k' h3 ho.1
    exact ⟨k', rfl, (ha _ o3 (by rw [← o2]; exact ho.2)).1 h2⟩
theorem fn_no {t : Tb} {A : Nat → Bool} (h : Sd f t A) {H : Nat} {ans : Nat → Bool} (ha : ∀ y, A y = true → f y = H → ans y = false) : t.fn H ans = none := by
  unfold Tb.fn
  refine List.find?_eq_none.2 fun k hk hc => ?_
  have h3 := wayU_lt h.ok H hk
  obtain ⟨i, _, ho, hk'⟩ := wayU_mem.1 hk
  unfold Tb.on at ho
  rw [hk'] at ho
  simp only [Bool.and_eq_true, beq_iff_eq] at ho
  obtain ⟨o1, o2, o3⟩ := h.own k h3 ho.1
  rw [ha _ o3 (by rw [← o2]; exact ho.2)] at hc
  cases hc
theorem Kx.gn_one (h : Kx f s P A B) {H x : Nat} {ans : Nat → Bool} (hx : P x = true) (hH : f x = H) (ha : ∀ y, P y = true → f y = H → (ans y = true ↔ y = x)) : s.gn H ans = some x := by
  have hA : ∀ y, A y = true → f y = H → (ans y = true ↔ y = x) := fun y hy => ha y (by rw [h.look, hy]; rfl)
  have hB : ∀ y, B y = true → f y = H → (ans y = true ↔ y = x) := fun y hy => ha y (by rw [h.look, hy, Bool.or_true])
  unfold gn
  cases hax : A x with
  | true =>
    obtain ⟨k, e, hw⟩ := fn_one h.now hax hH hA
    rw [e]
    show some (s.now.ew k) = some x
    rw [hw]
  | false =>
    have hbx : B x = true := by rw [h.look, hax] at hx; exact hx
    have hmv : s.mv = true := by
      cases e : s.mv with
      | true => rfl
      | false => rw [h.off e x] at hbx; cases hbx
    rw [fn_no h.now fun y hy hf => by
      cases hc : ans y with
      | false => rfl
      | true =>
        rw [(hA y hy hf).1 hc, hax] at hy
        cases hy]
    obtain ⟨k, e, hw⟩ := fn_one (h.next hmv) hbx hH hB
    rw [hmv, e]
    show some (s.next.ew k) = some x
    rw [hw]
theorem Kx.gn_no (h : Kx f s P A B) {H : Nat} {ans : Nat → Bool} (ha : ∀ y, P y = true → f y = H → ans y = false) : s.gn H ans = none := by
  unfold gn
  rw [fn_no h.now fun y hy => ha y (by rw [h.look, hy]; rfl)]
  cases hmv : s.mv with
  | false => rfl
  | true =>
    rw [fn_no (h.next hmv) fun y hy => ha y (by rw [h.look, hy, Bool.or_true])]
    rfl
/-- A growing table that has just the numbers of P, x under the hash f x. -/
def Kg (f : Nat → Nat) (s : Gr) (P : Nat → Bool) : Prop := ∃ A B, Kx f s P A B
theorem kg_new (f : Nat → Nat) {m : Nat} (h : 16 ≤ m) (h' : m ≤ 262144) : Kg f (new m) (fun _ => false) := ⟨_, _, kx_new h h'⟩
theorem Kg.ok (h : Kg f s P) : s.Ok := by
  obtain ⟨A, B, h⟩ := h
  exact h.ok
theorem Kg.put (h : Kg f s P) {x : Nat} (hx : x < 256) (hfx : f x < 18446744073709551616) (hm : P x = false) : (s.ptE (f x) = 0 ∨ s.ptE (f x) = 9) ∧ Kg f (s.pt (f x) x) (updB P x (decide (s.ptE (f x) = 0))) := by
  obtain ⟨A, B, h⟩ := h
  exact h.put_ hx hfx hm
theorem Kg.drop (h : Kg f s P) {x : Nat} (hm : P x = true) : s.drE (f x) x = 0 ∧ Kg f (s.dr (f x) x) (updB P x false) := by
  obtain ⟨A, B, h⟩ := h
  exact h.drop_ hm
theorem Kg.step (h : Kg f s P) (hfx : ∀ x, x < 256 → f x < 18446744073709551616) : Kg f s.st P := by
  obtain ⟨A, B, h⟩ := h
  exact h.st_ hfx
theorem Kg.re {g : Nat → Nat} (h : Kg f s P) (e : ∀ x, P x = true → g x = f x) : Kg g s P := by
  obtain ⟨A, B, h⟩ := h
  exact ⟨A, B, h.fun_ e⟩
theorem Kg.one (h : Kg f s P) {H x : Nat} {ans : Nat → Bool} (hx : P x = true) (hH : f x = H) (ha : ∀ y, P y = true → f y = H → (ans y = true ↔ y = x)) : s.gn H ans = some x := by
  obtain ⟨A, B, h⟩ := h
  exact h.gn_one hx hH ha
theorem Kg.no (h : Kg f s P) {H : Nat} {ans : Nat → Bool} (ha : ∀ y, P y = true → f y = H → ans y = false) : s.gn H ans = none := by
  obtain ⟨A, B, h⟩ := h
  exact h.gn_no ha
end
end Gr
end Go.Proofs.YtimcdnbfdkpffaaGreat
/- Stage 12: numbers mixed, hashes of bytes, in pure words; a number mixed is told back. -/
namespace Go.Proofs.YtimcdnbfdkpffaaGreat
set_option maxRecDepth 100000
/-- A product modulo 2^64. -/
def mulW (a b : Nat) : Nat := a * b % 18446744073709551616
def mixN (n : Nat) : Nat :=
  let a := mulW (n ^^^ n >>> 30) 0xbf58476d1ce4e5b9
  let b := mulW (a ^^^ a >>> 27) 0x94d049bb133111eb
  b ^^^ b >>> 31
def fnvN (f : Nat → Nat) : Nat → Nat
  | 0 => 14695981039346656037
  | k + 1 => mulW (fnvN f k ^^^ f k) 1099511628211
def seedN (seed : Nat) (f : Nat → Nat) (m : Nat) : Nat := mixN (fnvN f m ^^^ mixN seed)
def turnN (n k : Nat) : Nat → Nat
  | 0 => n
  | r + 1 => n ^^^ (turnN n k r) >>> k
theorem mulW_lt (a b : Nat) : mulW a b < 18446744073709551616 := Nat.mod_lt _ (by decide)
theorem xorW_lt {a b : Nat} (ha : a < 18446744073709551616) (hb : b < 18446744073709551616) : a ^^^ b < 18446744073709551616 := Nat.xor_lt_two_pow (n := 64) ha hb
theorem shrW_lt {a : Nat} (ha : a < 18446744073709551616) (k : Nat) : a >>> k < 18446744073709551616 := by
  rw [Nat.shiftRight_eq_div_pow]
  exact Nat.lt_of_le_of_lt (Nat.div_le_self _ _) ha
theorem turn_step (x k : Nat) : ∀ r, turnN (x ^^^ x >>> k) k r = x ^^^ x >>> (k * (r + 1))
  | 0 => by rw [Nat.zero_add, Nat.mul_one]; rfl
  | r + 1 => by
    show (x ^^^ x >>> k) ^^^ (turnN (x ^^^ x >>> k) k r) >>> k = _
    rw [turn_step x k r, Nat.shiftRight_xor_distrib, ← Nat.shiftRight_add, show k * (r + 1) + k = k * (r + 1 + 1) by rw [Nat.mul_succ k (r + 1)], Nat.xor_assoc, ← Nat.xor_assoc (x >>> k), Nat.xor_self, Nat.zero_xor]
theorem mix_lt (n : Nat) : mixN n < 18446744073709551616 := xorW_lt (mulW_lt _ _) (shrW_lt (mulW_lt _ _) _)
theorem fnv_lt (f : Nat → Nat) : ∀ k, fnvN f k < 18446744073709551616
  | 0 => by
    show 14695981039346656037 < 18446744073709551616
    decide
  | k + 1 => mulW_lt _ _
end Go.Proofs.YtimcdnbfdkpffaaGreat
/- Stage 15: states of flows in pure words; what is asked of the program. -/
namespace Go.Proofs.YtimcdnbfdkpffaaGreat
set_option maxRecDepth 100000
open Go.RowKit Go.Shelf
def fsM (s : Nat) : Bool := decide (1 ≤ s) && decide (s ≤ 4)
def fsT1 (x : Nat) : Bool := decide (1 ≤ x) && decide (x ≤ 1048576)
def fsT (a b c d : Nat) : Bool := fsT1 a && (fsT1 b && (fsT1 c && fsT1 d))
def fsK (a b c d s : Nat) : Nat := if s = 1 then a else if s = 2 then b else if s = 3 then c else if s = 4 then d else 0
end Go.Proofs.YtimcdnbfdkpffaaGreat
/- Stage 12: the document's numbers mixed; the law's number told back. -/
namespace Go.Proofs.YtimcdnbfdkpffaaGreat
set_option maxRecDepth 100000
open Go.RowKit Go.Shelf
theorem wrap_mulW (a b : Nat) : IntKind.u64.wrap ((a : Int) * (b : Int)) = ((mulW a b : Nat) : Int) := by
  rw [IntKind.wrap_u64, mulW, Int.natCast_emod, Int.natCast_mul]
  rfl
end Go.Proofs.YtimcdnbfdkpffaaGreat
/- Stage 12: a tuple in memory, its bytes in pure words, how it is opened. -/
namespace Go.Proofs.YtimcdnbfdkpffaaGreat
set_option maxRecDepth 100000
open Go.ChangeShapes Go.WideShapes Go.ChangeAt Go.RowKit
def tupc (v6 : Bool) (pr : Int) (s d : Nat → Int) (sp dp : Int) : Array Value := #[.bool v6, .int .u8 pr, .int .u8 (s 0), .int .u8 (s 1), .int .u8 (s 2), .int .u8 (s 3), .int .u8 (s 4), .int .u8 (s 5), .int .u8 (s 6), .int .u8 (s 7), .int .u8 (s 8), .int .u8 (s 9), .int .u8 (s 10), .int .u8 (s 11), .int .u8 (s 12), .int .u8 (s 13), .int .u8 (s 14), .int .u8 (s 15), .int .u8 (d 0), .int .u8 (d 1), .int .u8 (d 2), .int .u8 (d 3), .int .u8 (d 4), .int .u8 (d 5), .int .u8 (d 6), .int .u8 (d 7), .int .u8 (d 8), .int .u8 (d 9), .int .u8 (d 10), .int .u8 (d 11), .int .u8 (d 12), .int .u8 (d 13), .int .u8 (d 14), .int .u8 (d 15), .int .u16 sp, .int .u16 dp]
theorem tup_one (v6 : Bool) (pr : Int) (s d : Nat → Int) (sp dp : Int) : (tupc v6 pr s d sp dp).all (·.oneCell') = true := by simp [tupc, Value.oneCell']
/-- How many bytes an address tells. -/
def alen (v6 : Bool) : Nat := if v6 then 16 else 4
def tlen (v6 : Bool) : Nat := 6 + 2 * alen v6
/-- A tuple's bytes. -/
def tupB (v6 : Bool) (pr : Int) (s d : Nat → Int) (sp dp : Int) (k : Nat) : Int :=
  if k = 0 then (if v6 then 6 else 4) else if k = 1 then pr else if k < 2 + alen v6 then s (k - 2) else if k < 2 + 2 * alen v6 then d (k - 2 - alen v6) else
  if k = 2 + 2 * alen v6 then sp / 256 else if k = 3 + 2 * alen v6 then sp % 256 else if k = 4 + 2 * alen v6 then dp / 256 else dp % 256
theorem alen_le (v6 : Bool) : 4 ≤ alen v6 ∧ alen v6 ≤ 16 := by
  cases v6 <;> exact ⟨by decide, by decide⟩
theorem tupB_byt {v6 : Bool} {pr : Int} {s d : Nat → Int} {sp dp : Int} (hp : 0 ≤ pr ∧ pr ≤ 255) (hs : Byt s) (hd : Byt d) (h1 : 0 ≤ sp ∧ sp ≤ 65535) (h2 : 0 ≤ dp ∧ dp ≤ 65535) : Byt (tupB v6 pr s d sp dp) := fun k => by
  unfold tupB
  split
  · cases v6 <;> exact ⟨by decide, by decide⟩
  split
  · exact hp
  split
  · exact hs _
  split
  · exact hd _
  split
  · omega
  split
  · omega
  split
  · omega
  · omega
theorem tupB_s {v6 : Bool} {pr : Int} {s d : Nat → Int} {sp dp : Int} {k : Nat} (hk : k < alen v6) : tupB v6 pr s d sp dp (2 + k) = s k := by
  unfold tupB
  rw [if_neg (by omega), if_neg (by omega), if_pos (by omega), show 2 + k - 2 = k by omega]
theorem tupB_d {v6 : Bool} {pr : Int} {s d : Nat → Int} {sp dp : Int} {k : Nat} (hk : k < alen v6) : tupB v6 pr s d sp dp (2 + alen v6 + k) = d k := by
  unfold tupB
  rw [if_neg (by omega), if_neg (by omega), if_neg (by omega), if_pos (by omega), show 2 + alen v6 + k - 2 - alen v6 = k by omega]
theorem tupB_end {v6 : Bool} {pr : Int} {s d : Nat → Int} {sp dp : Int} : tupB v6 pr s d sp dp (2 + 2 * alen v6) = sp / 256 ∧ tupB v6 pr s d sp dp (2 + 2 * alen v6 + 1) = sp % 256 ∧ tupB v6 pr s d sp dp (2 + 2 * alen v6 + 2) = dp / 256 ∧ tupB v6 pr s d sp dp (2 + 2 * alen v6 + 3) = dp % 256 := by
  have h := alen_le v6
  unfold tupB
  refine ⟨?_, ?_, ?_, ?_⟩
  · rw [if_neg (by omega), if_neg (by omega), if_neg (by omega), if_neg (by omega), if_pos rfl]
  · rw [if_neg (by omega), if_neg (by omega), if_neg (by omega), if_neg (by omega), if_neg (by omega), if_pos (by omega)]
  · rw [if_neg (by omega), if_neg (by omega), if_neg (by omega), if_neg (by omega), if_neg (by omega), if_neg (by omega), if_pos (by omega)]
  · rw [if_neg (by omega), if_neg (by omega), if_neg (by omega), if_neg (by omega), if_neg (by omega), if_neg (by omega), if_neg (by omega)]
theorem tupc_s (v6 : Bool) (pr : Int) (s d : Nat → Int) (sp dp : Int) {k : Nat} (hk : k < 16) : (tupc v6 pr s d sp dp)[2 + k]? = some (.int .u8 (s k)) := by
  unfold tupc
  match k, hk with
  | 0, _ => rfl
  | 1, _ => rfl
  | 2, _ => rfl
  | 3, _ => rfl
  | 4, _ => rfl
  | 5, _ => rfl
  | 6, _ => rfl
  | 7, _ => rfl
  | 8, _ => rfl
  | 9, _ => rfl
  | 10, _ => rfl
  | 11, _ => rfl
  | 12, _ => rfl
  | 13, _ => rfl
  | 14, _ => rfl
  | 15, _ => rfl
  | k + 16, h => exact absurd h (by omega)
theorem tupc_d (v6 : Bool) (pr : Int) (s d : Nat → Int) (sp dp : Int) {k : Nat} (hk : k < 16) : (tupc v6 pr s d sp dp)[18 + k]? = some (.int .u8 (d k)) := by
  unfold tupc
  match k, hk with
  | 0, _ => rfl
  | 1, _ => rfl
  | 2, _ => rfl
  | 3, _ => rfl
  | 4, _ => rfl
  | 5, _ => rfl
  | 6, _ => rfl
  | 7, _ => rfl
  | 8, _ => rfl
  | 9, _ => rfl
  | 10, _ => rfl
  | 11, _ => rfl
  | 12, _ => rfl
  | 13, _ => rfl
  | 14, _ => rfl
  | 15, _ => rfl
  | k + 16, h => exact absurd h (by omega)
end Go.Proofs.YtimcdnbfdkpffaaGreat
