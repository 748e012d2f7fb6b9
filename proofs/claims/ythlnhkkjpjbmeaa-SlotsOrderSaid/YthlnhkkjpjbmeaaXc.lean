/- Stage 10: calls upon slots at rest, beside kept blocks; the page's example. -/
import Derived.Test.YthlnhkkjpjbmeaaXb
namespace Go.Proofs.Ythlnhkkjpjbmeaa
set_option maxRecDepth 100000
open Go.RowKit Go.Shelf
theorem Sl.Fit.push {s : Sl} (hs : s.Fit) (l c : Int) : (s.push l c).Fit := ⟨Sl.ok_push hs.ok l c, by rw [Sl.push_cells]; exact hs.m, by rw [Sl.push_len]; exact hs.n⟩
theorem Sl.Fit.pop {s : Sl} (hs : s.Fit) (l : Int) : (s.pop l).Fit := ⟨Sl.ok_pop hs.ok l, by rw [Sl.pop_cells]; exact hs.m, by rw [Sl.pop_len]; exact hs.n⟩
theorem Sl.Fit.rem {s : Sl} (hs : s.Fit) (c : Int) : (s.rem c).Fit := ⟨Sl.ok_rem hs.ok c, by rw [Sl.rem_cells]; exact hs.m, by rw [Sl.rem_len]; exact hs.n⟩
theorem Sl.fit_new {n m : Nat} (hn : n ≤ 4096) (hm : m ≤ 65536) : (Sl.new n m).Fit := ⟨Sl.ok_new n m, hm, by show (List.replicate n []).length ≤ _; rw [List.length_replicate]; exact hn⟩
section
variable {wb w : World} {p : Nat} {s : Sl} {X : Nat → Prop}
theorem ST.below (h : ST wb p s X w) : Below wb.heap.size wb w := by
  obtain ⟨A, h⟩ := h
  exact h.below
theorem ST.lt (h : ST wb p s X w) : ∀ k, X k → k < w.heap.size := by
  obtain ⟨A, h⟩ := h
  exact h.lt
theorem ST.step (h : ST wb p s X w) {w' : World} (hb : Below w.heap.size w w') : ST wb p s X w' := by
  obtain ⟨A, h⟩ := h
  exact ⟨A, h.step hb⟩
theorem ST.less (h : ST wb p s X w) {Y : Nat → Prop} (hY : ∀ k, Y k → X k) : ST wb p s Y w := by
  obtain ⟨A, h⟩ := h
  exact ⟨A, h.less hY⟩
theorem ST.more (h : ST wb p s X w) {w' : World} (hb : Below w.heap.size w w') {Y : Nat → Prop} (hY : ∀ k, Y k → w.heap.size ≤ k ∧ k < w'.heap.size) : ST wb p s (Or2 X Y) w' := by
  obtain ⟨A, h⟩ := h
  exact ⟨A, h.more hb hY⟩
theorem ST.kept (h : ST wb p s X w) {w' : World} {R : Nat → Prop} (hk : Kept R w w') (hR : ∀ k, R k → k < w.heap.size → X k ∧ wb.heap.size ≤ k) : ST wb p s X w' := by
  obtain ⟨A, h⟩ := h
  exact ⟨A, h.kept hk hR⟩
theorem ST.of_pa {F : Nat → Prop} (h : PA w p s F) (h1 : ∀ k, F k → wb.heap.size ≤ k ∧ ¬ X k) (h2 : ∀ k, X k → k < w.heap.size) (h3 : Below wb.heap.size wb w) : ST wb p s X w := by
  obtain ⟨A, h⟩ := h
  exact ⟨A, F, h, h1, h2, h3⟩
theorem ST.pa (h : ST wb p s X w) : ∃ F, PA w p s F ∧ (∀ k, F k → wb.heap.size ≤ k ∧ ¬ X k) := by
  obtain ⟨A, F, h, h1, _, _⟩ := h
  exact ⟨F, ⟨A, h⟩, h1⟩
theorem PA.keep {w' : World} {F R : Nat → Prop} (h : PA w p s F) (hk : Kept R w w') (hd : ∀ k, F k → ¬ R k) : PA w' p s F := by
  obtain ⟨A, h⟩ := h
  exact ⟨A, h.keep hk hd⟩
theorem PA.old {F : Nat → Prop} (h : PA w p s F) : ∀ k, F k → k < w.heap.size := by
  obtain ⟨A, h⟩ := h
  exact h.old
/-- What is kept, as blocks. -/
theorem PA.same {w' : World} {F : Nat → Prop} (h : PA w p s F) (hs : w.heap.size ≤ w'.heap.size) (hb : Below 0 w w') (hk : ∀ k, F k → w'.heap[k]? = w.heap[k]?) : PA w' p s F :=
  h.keep (R := fun k => ¬ F k) ⟨hb.os, hb.tape, hb.output, hs, fun k _ q => hk k (Classical.not_not.1 q)⟩ fun _ q r => r q
theorem ST.push (h : ST wb p s X w) (hs : s.Fit) (l c : Int) : Calls Try.prog 9 #[.pointer (some ⟨p, 0, none⟩), .int .i64 l, .int .i64 c] w fun e w' => e = .returned (.int .i64 (s.pushE l c)) ∧ ST wb p (s.push l c) X w' ∧ ∀ k, X k → w'.heap[k]? = w.heap[k]? := by
  obtain ⟨A, F, hp, h1, h2, h3⟩ := h
  refine (pa_push hs A none l c w p F hp).mono ?_
  rintro e w' ⟨rfl, F', hp', he⟩
  obtain ⟨q1, q2⟩ := SSt.turned hp h1 h2 h3 hp' he.kept he.sub
  exact ⟨rfl, ⟨A, q1⟩, q2⟩
theorem ST.pop (h : ST wb p s X w) (hs : s.Fit) (l : Int) : Calls Try.prog 11 #[.pointer (some ⟨p, 0, none⟩), .int .i64 l] w fun e w' => e = .returned (.tuple (s.popE l)) ∧ ST wb p (s.pop l) X w' ∧ ∀ k, X k → w'.heap[k]? = w.heap[k]? := by
  obtain ⟨A, F, hp, h1, h2, h3⟩ := h
  refine (pa_pop hs A l w p F hp).mono ?_
  rintro e w' ⟨rfl, F', hp', he⟩
  obtain ⟨q1, q2⟩ := SSt.turned hp h1 h2 h3 hp' he.kept he.sub
  exact ⟨rfl, ⟨A, q1⟩, q2⟩
theorem pa_remove0 {s : Sl} (hs : s.Fit) (A : Nat) (c : Int) : Does (PSa A none) (PSa A none) 13 #[.int .i64 c] (.int .i64 (s.remE c)) s (s.rem c) := by
  have h := pa_remove hs A none c 0 (fun _ _ _ _ _ _ e => nomatch e)
  have e : (if (s.whi c).isSome then wkCut c.toNat 0 none else none) = none := by
    split <;> rfl
  rw [e] at h
  exact h
theorem ST.remove (h : ST wb p s X w) (hs : s.Fit) (c : Int) : Calls Try.prog 13 #[.pointer (some ⟨p, 0, none⟩), .int .i64 c] w fun e w' => e = .returned (.int .i64 (s.remE c)) ∧ ST wb p (s.rem c) X w' ∧ ∀ k, X k → w'.heap[k]? = w.heap[k]? := by
  obtain ⟨A, F, hp, h1, h2, h3⟩ := h
  refine (pa_remove0 hs A c w p F hp).mono ?_
  rintro e w' ⟨rfl, F', hp', he⟩
  obtain ⟨q1, q2⟩ := SSt.turned hp h1 h2 h3 hp' he.kept he.sub
  exact ⟨rfl, ⟨A, q1⟩, q2⟩
theorem ST.len (h : ST wb p s X w) (hs : s.Fit) (l : Int) : Calls Try.prog 20 #[.pointer (some ⟨p, 0, none⟩), .int .i64 l] w (ret (.int .i64 ((s.of_ l).length : Int)) w) := by
  obtain ⟨A, F, hp, _⟩ := h
  exact pa_len hs l hp
theorem ST.where_ (h : ST wb p s X w) (hs : s.Fit) (c : Int) : Calls Try.prog 21 #[.pointer (some ⟨p, 0, none⟩), .int .i64 c] w (ret (.tuple (s.whE c)) w) := by
  obtain ⟨A, F, hp, _⟩ := h
  exact pa_where hs c hp
/-- A copy: both are there. -/
theorem ST.copy (h : ST wb p s X w) (hs : s.Fit) : Calls Try.prog 16 #[.pointer (some ⟨p, 0, none⟩)] w fun e w' => ∃ b C D, e = .returned (.pointer (some ⟨b, 0, none⟩)) ∧ PA w' b s C ∧ PA w' p s D ∧ (∀ k, C k → wb.heap.size ≤ k ∧ ¬ X k ∧ ¬ D k) ∧ (∀ k, D k → wb.heap.size ≤ k ∧ ¬ X k ∧ ¬ C k) ∧ (∀ k, X k → k < w'.heap.size) ∧ Below wb.heap.size wb w' ∧ Below w.heap.size w w' := by
  obtain ⟨A, F, hp, h1, h2, h3⟩ := h
  refine (pa_copy hs hp).mono ?_
  rintro e w' ⟨b, C, rfl, hc, hC, hb⟩
  refine ⟨b, C, F, rfl, hc, ⟨A, hp.step hb⟩, fun k q => ?_, fun k q => ⟨(h1 k q).1, (h1 k q).2, fun r => ?_⟩, fun k q => Nat.lt_of_lt_of_le (h2 k q) hb.size, h3.trans (hb.mono h3.size), hb⟩
  · have := (hC k q).1
    refine ⟨Nat.le_trans h3.size this, fun r => ?_, fun r => ?_⟩
    · have := h2 k r
      omega
    · have := hp.old k r
      omega
  · have := (hC k r).1
    have := hp.old k q
    omega
theorem ST.new (w : World) (hb : Below wb.heap.size wb w) (hX : ∀ k, X k → k < w.heap.size) (m n : Nat) (h1 : 1 ≤ m) (h2 : m ≤ 65536) (h3 : 1 ≤ n) (h4 : n ≤ 4096) : Calls Try.prog 7 #[.int .i64 (n : Int), .int .i64 (m : Int)] w fun e w' => ∃ p, e = .returned (.tuple #[.pointer (some ⟨p, 0, none⟩), .int .i64 0]) ∧ ST wb p (Sl.new n m) X w' ∧ Below w.heap.size w w' := by
  refine (pa_new w m n h1 h2 h3 h4).mono ?_
  rintro e w' ⟨p, F, rfl, hp, hF, hb'⟩
  refine ⟨p, rfl, ST.of_pa hp (fun k q => ⟨Nat.le_trans hb.size (hF k q).1, fun r => ?_⟩) (fun k q => Nat.lt_of_lt_of_le (hX k q) hb'.size) (hb.trans (hb'.mono hb.size)), hb'⟩
  have := hX k r
  have := (hF k q).1
  omega
end
set_option maxHeartbeats 2000000 in
theorem known_any (w : World) : Calls Try.prog 6 #[] w (ret (.bool true) w) := by
  have HV0 : Hid ((Sl.new 1 4).pushE 0 3 = 0) := Lib.hid rfl
  have HV1 : Hid (((Sl.new 1 4).push 0 3).pushE 0 1 = 0) := Lib.hid rfl
  have HV2 : Hid ((((Sl.new 1 4).push 0 3).push 0 1).pushE 0 2 = 0) := Lib.hid rfl
  have HV3 : Hid (((((Sl.new 1 4).push 0 3).push 0 1).push 0 2).pushE 0 1 = 8) := Lib.hid rfl
  have HV4 : Hid ((((((Sl.new 1 4).push 0 3).push 0 1).push 0 2).push 0 1).remE 1 = 0) := Lib.hid rfl
  have HV5 : Hid (((((((Sl.new 1 4).push 0 3).push 0 1).push 0 2).push 0 1).rem 1).popE 0 = #[.int .i64 3, .bool true]) := Lib.hid rfl
  have HV6 : Hid ((((((((Sl.new 1 4).push 0 3).push 0 1).push 0 2).push 0 1).rem 1).pop 0).popE 0 = #[.int .i64 2, .bool true]) := Lib.hid rfl
  have HV7 : Hid ((((((((((Sl.new 1 4).push 0 3).push 0 1).push 0 2).push 0 1).rem 1).pop 0).pop 0).of_ 0).length = 0) := Lib.hid rfl
  have f0 : (Sl.new 1 4).Fit := Sl.fit_new (by omega) (by omega)
  have f1 := f0.push 0 3
  have f2 := f1.push 0 1
  have f3 := f2.push 0 2
  have f4 := f3.push 0 1
  have f5 := f4.rem 1
  have f6 := f5.pop 0
  have f7 := f6.pop 0
  have HF0 := Lib.hid f0
  have HF1 := Lib.hid f1
  have HF2 := Lib.hid f2
  have HF3 := Lib.hid f3
  have HF4 := Lib.hid f4
  have HF5 := Lib.hid f5
  have HF6 := Lib.hid f6
  have HF7 := Lib.hid f7
  clear f0 f1 f2 f3 f4 f5 f6 f7
  obtain ⟨s0, hs0⟩ : ∃ s, s = Sl.new 1 4 := ⟨_, rfl⟩
  rw [← hs0] at HV0 HV1 HV2 HV3 HV4 HV5 HV6 HV7 HF0 HF1 HF2 HF3 HF4 HF5 HF6 HF7
  obtain ⟨s1, hs1⟩ : ∃ s, s = (s0).push 0 3 := ⟨_, rfl⟩
  rw [← hs1] at HV1 HV2 HV3 HV4 HV5 HV6 HV7 HF1 HF2 HF3 HF4 HF5 HF6 HF7
  obtain ⟨s2, hs2⟩ : ∃ s, s = (s1).push 0 1 := ⟨_, rfl⟩
  rw [← hs2] at HV2 HV3 HV4 HV5 HV6 HV7 HF2 HF3 HF4 HF5 HF6 HF7
  obtain ⟨s3, hs3⟩ : ∃ s, s = (s2).push 0 2 := ⟨_, rfl⟩
  rw [← hs3] at HV3 HV4 HV5 HV6 HV7 HF3 HF4 HF5 HF6 HF7
  obtain ⟨s4, hs4⟩ : ∃ s, s = (s3).push 0 1 := ⟨_, rfl⟩
  rw [← hs4] at HV4 HV5 HV6 HV7 HF4 HF5 HF6 HF7
  obtain ⟨s5, hs5⟩ : ∃ s, s = (s4).rem 1 := ⟨_, rfl⟩
  rw [← hs5] at HV5 HV6 HV7 HF5 HF6 HF7
  obtain ⟨s6, hs6⟩ : ∃ s, s = (s5).pop 0 := ⟨_, rfl⟩
  rw [← hs6] at HV6 HV7 HF6 HF7
  obtain ⟨s7, hs7⟩ : ∃ s, s = (s6).pop 0 := ⟨_, rfl⟩
  rw [← hs7] at HV7 HF7
  have HE0 := Lib.hid hs0
  have HE1 := Lib.hid hs1
  have HE2 := Lib.hid hs2
  have HE3 := Lib.hid hs3
  have HE4 := Lib.hid hs4
  have HE5 := Lib.hid hs5
  have HE6 := Lib.hid hs6
  have HE7 := Lib.hid hs7
  clear hs0 hs1 hs2 hs3 hs4 hs5 hs6 hs7
  go_enter Try.func6, Try.ntmps6
  go_wp2_with (first
    | (go_at_call 7
       refine (ST.new (wb := w) (X := fun _ => False) w (Below.refl _ _) (fun _ h => h.elim) 4 1 (by omega) (by omega) (by omega) (by omega)).mono ?_
       rintro e u0 ⟨p, rfl, hst, _⟩
       rw [← HE0.out] at hst
       have HS0 := Lib.hid hst
       clear hst)
    | (go_at_call 9
       refine (HS0.out.push HF0.out 0 3).mono ?_
       rintro e u1 ⟨rfl, hst, _⟩
       rw [← HE1.out] at hst
       have HS1 := Lib.hid hst
       rw [HV0.out]
       clear hst HS0)
    | (go_at_call 9
       refine (HS1.out.push HF1.out 0 1).mono ?_
       rintro e u2 ⟨rfl, hst, _⟩
       rw [← HE2.out] at hst
       have HS2 := Lib.hid hst
       rw [HV1.out]
       clear hst HS1)
    | (go_at_call 9
       refine (HS2.out.push HF2.out 0 2).mono ?_
       rintro e u3 ⟨rfl, hst, _⟩
       rw [← HE3.out] at hst
       have HS3 := Lib.hid hst
       rw [HV2.out]
       clear hst HS2)
    | (go_at_call 9
       refine (HS3.out.push HF3.out 0 1).mono ?_
       rintro e u4 ⟨rfl, hst, _⟩
       rw [← HE4.out] at hst
       have HS4 := Lib.hid hst
       rw [HV3.out]
       clear hst HS3)
    | (go_at_call 13
       refine (HS4.out.remove HF4.out 1).mono ?_
       rintro e u5 ⟨rfl, hst, _⟩
       rw [← HE5.out] at hst
       have HS5 := Lib.hid hst
       rw [HV4.out]
       clear hst HS4)
    | (go_at_call 11
       refine (HS5.out.pop HF5.out 0).mono ?_
       rintro e u6 ⟨rfl, hst, _⟩
       rw [← HE6.out] at hst
       have HS6 := Lib.hid hst
       rw [HV5.out]
       clear hst HS5)
    | (go_at_call 11
       refine (HS6.out.pop HF6.out 0).mono ?_
       rintro e u7 ⟨rfl, hst, _⟩
       rw [← HE7.out] at hst
       have HS7 := Lib.hid hst
       rw [HV6.out]
       clear hst HS6)
    | (go_at_call 20
       refine (HS7.out.len HF7.out 0).mono ?_
       rintro e u8 ⟨rfl, hb⟩
       have HB8 := Lib.hid hb
       rw [HV7.out]
       clear hb))
  go_ret
  exact ⟨rfl, HS7.out.below.trans (HB8.out.mono HS7.out.below.size)⟩
end Go.Proofs.Ythlnhkkjpjbmeaa
