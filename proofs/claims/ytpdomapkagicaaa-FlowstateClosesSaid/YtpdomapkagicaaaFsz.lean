/- Stage 15: the landed flowstate. -/
import Derived.Test.YtpdomapkagicaaaFsa
import Derived.Test.YtpdomapkagicaaaGen
namespace Go.Proofs.Ytpdomapkagicaaa
set_option maxRecDepth 100000
open Go.RowKit Go.Shelf
theorem fmay_all : ∀ n : Fin 256, mayFl n.val = (if (bits .and .u8 (n.val : Int) 2 != 0) = true then (bits .and .u8 (n.val : Int) 5 == 0) else (bits .and .u8 (n.val : Int) 21 != 0)) := by decide +kernel
theorem fhas_all : ∀ n : Fin 256, (bits .and .u8 (n.val : Int) 1 != 0) = hasF n.val 1 ∧ (bits .and .u8 (n.val : Int) 2 != 0) = hasF n.val 2 ∧ (bits .and .u8 (n.val : Int) 4 != 0) = hasF n.val 4 ∧ (bits .and .u8 (n.val : Int) 16 != 0) = hasF n.val 16 := by decide +kernel
theorem fmay_any (f : Nat) (h : f < 256) (w : World) : Calls Try.prog 15 #[.int .u8 (f : Int)] w (ret (.bool (mayFl f)) w) := by
  have hb0 := fmay_all ⟨f, h⟩
  obtain ⟨m, hm⟩ : ∃ m, m = mayFl f := ⟨_, rfl⟩
  rw [← hm]
  have hb2 : m = _ := hm.trans hb0
  clear hm hb0
  obtain ⟨x, hx⟩ : ∃ x : Int, x = (f : Int) := ⟨_, rfl⟩
  rw [← hx]
  have hb : m = (if (bits .and .u8 x 2 != 0) = true then (bits .and .u8 x 5 == 0) else (bits .and .u8 x 21 != 0)) := by rw [hx]; exact hb2
  clear hx hb2
  clear h
  obtain ⟨b2, hb2⟩ : ∃ b, b = bits .and .u8 x 2 := ⟨_, rfl⟩
  obtain ⟨b5, hb5⟩ : ∃ b, b = bits .and .u8 x 5 := ⟨_, rfl⟩
  obtain ⟨b21, hb21⟩ : ∃ b, b = bits .and .u8 x 21 := ⟨_, rfl⟩
  rw [← hb2, ← hb5, ← hb21] at hb
  have h2 := hb2.symm
  have h5 := hb5.symm
  have h21 := hb21.symm
  clear hb2 hb5 hb21
  have HB := Lib.hid hb
  clear hb
  cases c : (b2 != 0)
  · go_enter Try.func15, Try.ntmps15
    go_wp2
    go_ret
    refine ⟨?_, Below.refl _ _⟩
    rw [HB.out, c]
    rfl
  · go_enter Try.func15, Try.ntmps15
    go_wp2
    go_ret
    refine ⟨?_, Below.refl _ _⟩
    rw [HB.out, c]
    rfl
/-- A box that holds flags, behind a world. -/
structure AskQ (p f : Nat) (w W : World) : Prop where
  below : Below w.heap.size w W
  blk : W.heap[p]? = some (.cells #[.int .u8 (f : Int)] 5 (0, 0))
theorem AskQ.step {p f : Nat} {w W W' : World} (h : AskQ p f w W) (k : Below W.heap.size W W') : AskQ p f w W' :=
  ⟨h.below.trans (k.mono h.below.size), (k.block _ (lt_heap h.blk)).trans h.blk⟩
theorem ask_flag {p f b : Nat} {w W : World} (hf : f < 256) (hb : b = 1 ∨ b = 2 ∨ b = 4 ∨ b = 16) (h : AskQ p f w W) : Calls Try.prog 21 #[.int .u8 (b : Int), .pointer (some ⟨p, 0, none⟩)] W fun e W' => e = .returned (.bool (hasF f b)) ∧ AskQ p f w W' := by
  have hl : W.cell? ⟨p, 0, none⟩ = some (.int .u8 (f : Int)) := blk_cell h.blk 0
  have HQ := Lib.hid h
  have hh : (bits .and .u8 (f : Int) (b : Int) != 0) = hasF f b := by
    obtain ⟨q1, q2, q4, q16⟩ := fhas_all ⟨f, hf⟩
    rcases hb with rfl | rfl | rfl | rfl
    · exact q1
    · exact q2
    · exact q4
    · exact q16
  obtain ⟨y, hy⟩ : ∃ y, y = bits .and .u8 (f : Int) (b : Int) := ⟨_, rfl⟩
  rw [← hy] at hh
  rw [← hh]
  replace hy := hy.symm
  clear hh h hf hb
  go_enter Try.func21, Try.ntmps21
  go_wp2
  go_ret
  exact ⟨rfl, HQ.out⟩
theorem asker_any (f : Nat) (W : World) : Calls Try.prog 16 #[.int .u8 (f : Int)] W fun e W' => e = .returned (.func (.func 21) #[] #[.pointer (some ⟨W.heap.size, 0, none⟩)]) ∧ AskQ W.heap.size f W W' := by
  have hmf : ∀ (fn : Fn) (first cap : Array Value) (w : World), (Instr.makeFunc fn first cap).run Try.prog w = .ok (.func fn first cap) w := fun _ _ _ _ => rfl
  have hq : AskQ W.heap.size f W (W.alloc (.cells #[.int .u8 (f : Int)] 5)) := ⟨below_alloc W _, heap_alloc_new W _⟩
  have HQ := Lib.hid hq
  clear hq
  go_enter Try.func16, Try.ntmps16
  go_wp2
  go_ret
  exact ⟨rfl, HQ.out⟩
theorem may_st (s : Nat) (w : World) (hs : s < 256) : Calls Try.prog 9 #[.int .u8 (s : Int)] w (ret (.bool (fsM s)) w) := by
  by_cases h1 : 1 ≤ s
  · have q1 : (1 : Int) ≤ (s : Int) := by omega
    by_cases h2 : s ≤ 4
    · have q2 : (s : Int) ≤ 4 := by omega
      rw [show fsM s = true by unfold fsM; simp; omega]
      clear h1 h2 hs
      go_enter Try.func9, Try.ntmps9
      go_wp2
      go_ret
      exact ⟨rfl, Below.refl _ _⟩
    · have q2 : ¬ (s : Int) ≤ 4 := by omega
      rw [show fsM s = false by unfold fsM; simp; omega]
      clear h1 h2 hs
      go_enter Try.func9, Try.ntmps9
      go_wp2
      go_ret
      exact ⟨rfl, Below.refl _ _⟩
  · have q1 : ¬ (1 : Int) ≤ (s : Int) := by omega
    rw [show fsM s = false by unfold fsM; simp; omega]
    clear h1 hs
    go_enter Try.func9, Try.ntmps9
    go_wp2
    go_ret
    exact ⟨rfl, Below.refl _ _⟩
theorem results_row9 {P : Program} {fn : Func} {p : Tmp} {ty : TypeId} (h : fn.results = #[.cell p ty]) (tmps : Array Value) (w : World) (g : Nat) (t : TypeId) (cs : Array Value) (fr : Nat × Nat) (d : TypeDesc)
    (hp : tmps.getD p undef = .pointer (some ⟨g, 0, none⟩)) (hg : w.heap[g]? = some (.cells cs t fr))
    (hu : P.underlying ty = some d) (hd : (match d with | .struct _ | .array _ _ => true | _ => false) = true) (hi : (P.info? ty).map (·.size) = some cs.size) :
    (results fn tmps).run P w = .ok (.agg cs) w := by
  have hp' : tmps[p]?.getD undef = .pointer (some ⟨g, 0, none⟩) := by simpa using hp
  simp [results, h, hp', asAddr, run_loadVar_row w g t ty cs fr d hg hu hd hi]
theorem byst_any (a b c d : Nat) (w : World) : Calls Try.prog 20 #[.agg #[.int .u32 (a : Int), .int .u32 (b : Int), .int .u32 (c : Int), .int .u32 (d : Int)]] w (ret (.agg #[.int .u32 (a : Int), .int .u32 (b : Int), .int .u32 (c : Int), .int .u32 (d : Int)]) w) := by
  have HB : Hid (Below w.heap.size w ((w.alloc (.cells #[.int .u32 (a : Int), .int .u32 (b : Int), .int .u32 (c : Int), .int .u32 (d : Int)] 24)).alloc (.cells #[.int .u32 (a : Int), .int .u32 (b : Int), .int .u32 (c : Int), .int .u32 (d : Int)] 43))) := Lib.hid (below_alloc2 w _ _)
  have HZ : Hid (((w.alloc (.cells #[.int .u32 (a : Int), .int .u32 (b : Int), .int .u32 (c : Int), .int .u32 (d : Int)] 24)).alloc (.cells #[.int .u32 (a : Int), .int .u32 (b : Int), .int .u32 (c : Int), .int .u32 (d : Int)] 43)).heap[w.heap.size + 1]? = some (.cells #[.int .u32 (a : Int), .int .u32 (b : Int), .int .u32 (c : Int), .int .u32 (d : Int)] 43 (0, 0))) := Lib.hid (by
    have h := heap_alloc_new (w.alloc (.cells #[.int .u32 (a : Int), .int .u32 (b : Int), .int .u32 (c : Int), .int .u32 (d : Int)] 24)) (.cells #[.int .u32 (a : Int), .int .u32 (b : Int), .int .u32 (c : Int), .int .u32 (d : Int)] 43)
    rwa [show (w.alloc (.cells #[.int .u32 (a : Int), .int .u32 (b : Int), .int .u32 (c : Int), .int .u32 (d : Int)] 24)).heap.size = w.heap.size + 1 by simp] at h)
  go_enter Try.func20, Try.ntmps20
  go_wp2
  refine bodyPost_ret (v := .agg #[.int .u32 (a : Int), .int .u32 (b : Int), .int .u32 (c : Int), .int .u32 (d : Int)]) (results_row9 Try.results20 _ _ (w.heap.size + 1) 43 _ (0, 0) _ rfl HZ.out Try.underlying43 rfl (by kernel_rfl)) rfl ?_
  exact ⟨rfl, HB.out⟩
set_option maxHeartbeats 2000000 in
theorem first_st (p f : Nat) (w : World) (hp : p < 256) (hf : f < 256) : Calls Try.prog 5 #[.int .u8 (p : Int), .int .u8 (f : Int)] w (ret (.tuple #[.int .u8 ((fsF p f).1 : Int), .bool (fsF p f).2]) w) := by
  have HMT : Hid (∀ W : World, Calls Try.prog 15 #[.int .u8 (f : Int)] W (ret (.bool (mayFl f)) W)) := Lib.hid fun W => fmay_any f hf W
  have HAK : Hid (∀ W : World, Calls Try.prog 16 #[.int .u8 (f : Int)] W fun e W' => e = .returned (.func (.func 21) #[] #[.pointer (some ⟨W.heap.size, 0, none⟩)]) ∧ AskQ W.heap.size f W W') := Lib.hid fun W => asker_any f W
  have HF1 : Hid (∀ (p : Nat) (u W : World), AskQ p f u W → Calls Try.prog 21 #[.int .u8 1, .pointer (some ⟨p, 0, none⟩)] W fun e W' => e = .returned (.bool (hasF f 1)) ∧ AskQ p f u W') := Lib.hid fun p u W h => ask_flag (b := 1) hf (.inl rfl) h
  have HF2 : Hid (∀ (p : Nat) (u W : World), AskQ p f u W → Calls Try.prog 21 #[.int .u8 2, .pointer (some ⟨p, 0, none⟩)] W fun e W' => e = .returned (.bool (hasF f 2)) ∧ AskQ p f u W') := Lib.hid fun p u W h => ask_flag (b := 2) hf (.inr (.inl rfl)) h
  have HF4 : Hid (∀ (p : Nat) (u W : World), AskQ p f u W → Calls Try.prog 21 #[.int .u8 4, .pointer (some ⟨p, 0, none⟩)] W fun e W' => e = .returned (.bool (hasF f 4)) ∧ AskQ p f u W') := Lib.hid fun p u W h => ask_flag (b := 4) hf (.inr (.inr (.inl rfl))) h
  have HF16 : Hid (∀ (p : Nat) (u W : World), AskQ p f u W → Calls Try.prog 21 #[.int .u8 16, .pointer (some ⟨p, 0, none⟩)] W fun e W' => e = .returned (.bool (hasF f 16)) ∧ AskQ p f u W') := Lib.hid fun p u W h => ask_flag (b := 16) hf (.inr (.inr (.inr rfl))) h
  have HB0 : Hid (Below w.heap.size w w) := Lib.hid (Below.refl _ _)
  obtain ⟨r, hr⟩ : ∃ r, r = fsF p f := ⟨_, rfl⟩
  rw [← hr]
  unfold fsF at hr
  by_cases e17 : p = 17
  · rw [if_pos e17] at hr
    subst hr
    have q17 : ((p : Int) == 17) = true := by simp; omega
    clear e17
    go_enter Try.func5, Try.ntmps5
    go_wp2_with fail
    go_ret2
    exact ⟨rfl, HB0.out⟩
  rw [if_neg e17] at hr
  have q17 : ((p : Int) == 17) = false := by simp; omega
  clear e17
  by_cases e6 : p = 6
  case neg =>
    rw [if_pos e6] at hr
    subst hr
    have q6 : ((p : Int) != 6) = true := by simp; omega
    clear e6
    go_enter Try.func5, Try.ntmps5
    go_wp2_with fail
    go_ret2
    exact ⟨rfl, HB0.out⟩
  rw [if_neg (not_not_intro e6)] at hr
  have q6 : ((p : Int) != 6) = false := by simp; omega
  clear e6
  cases em : mayFl f with
  | false =>
    rw [em] at HMT
    rw [if_pos em] at hr
    clear em
    subst hr
    go_enter Try.func5, Try.ntmps5
    go_wp2_with (first
      | (go_at_call 15
         with_reducible refine (HMT.out _).mono ?_
         rintro e u1 ⟨rfl, hb⟩
         have HB1 := Lib.hid (HB0.out.trans (hb.mono HB0.out.size))
         clear hb))
    go_ret2
    exact ⟨rfl, HB1.out⟩
  | true =>
    rw [em] at HMT
    rw [if_neg (by rw [em]; decide)] at hr
    clear em
    cases e4 : hasF f 4 with
    | true =>
      rw [e4] at HF4
      rw [if_pos e4] at hr
      clear e4
      subst hr
      go_enter Try.func5, Try.ntmps5
      go_wp2_with (first
        | (go_at_call 15
           with_reducible refine (HMT.out _).mono ?_
           rintro e u1 ⟨rfl, hb⟩
           have HB1 := Lib.hid (HB0.out.trans (hb.mono HB0.out.size))
           clear hb)
        | (go_at_call 16
           with_reducible refine (HAK.out _).mono ?_
           rintro e v0 ⟨rfl, hq⟩
           have HQ0 := Lib.hid hq
           clear hq
           generalize u1.heap.size = p0 at *)
        | (go_at_call 21
           with_reducible refine (HF4.out _ _ _ HQ0.out).mono ?_
           rintro e v1 ⟨rfl, hq⟩
           have HQ1 := Lib.hid hq
           clear hq))
      go_ret2
      exact ⟨rfl, HB1.out.trans (HQ1.out.below.mono HB1.out.size)⟩
    | false =>
      rw [e4] at HF4
      rw [if_neg (by rw [e4]; exact Bool.false_ne_true)] at hr
      clear e4
      cases e1 : hasF f 1 with
      | true =>
        rw [e1] at HF1
        rw [if_pos e1] at hr
        clear e1
        subst hr
        go_enter Try.func5, Try.ntmps5
        go_wp2_with (first
          | (go_at_call 15
             with_reducible refine (HMT.out _).mono ?_
             rintro e u1 ⟨rfl, hb⟩
             have HB1 := Lib.hid (HB0.out.trans (hb.mono HB0.out.size))
             clear hb)
          | (go_at_call 16
             with_reducible refine (HAK.out _).mono ?_
             rintro e v0 ⟨rfl, hq⟩
             have HQ0 := Lib.hid hq
             clear hq
             generalize u1.heap.size = p0 at *)
          | (go_at_call 21
             with_reducible refine (HF4.out _ _ _ HQ0.out).mono ?_
             rintro e v1 ⟨rfl, hq⟩
             have HQ1 := Lib.hid hq
             clear hq)
          | (go_at_call 21
             with_reducible refine (HF1.out _ _ _ HQ1.out).mono ?_
             rintro e v2 ⟨rfl, hq⟩
             have HQ2 := Lib.hid hq
             clear hq))
        go_ret2
        exact ⟨rfl, HB1.out.trans (HQ2.out.below.mono HB1.out.size)⟩
      | false =>
        rw [e1] at HF1
        rw [if_neg (by rw [e1]; exact Bool.false_ne_true)] at hr
        clear e1
        cases e2 : hasF f 2 with
        | true =>
          rw [e2] at HF2
          rw [if_pos e2] at hr
          clear e2
          subst hr
          go_enter Try.func5, Try.ntmps5
          go_wp2_with (first
            | (go_at_call 15
               with_reducible refine (HMT.out _).mono ?_
               rintro e u1 ⟨rfl, hb⟩
               have HB1 := Lib.hid (HB0.out.trans (hb.mono HB0.out.size))
               clear hb)
            | (go_at_call 16
               with_reducible refine (HAK.out _).mono ?_
               rintro e v0 ⟨rfl, hq⟩
               have HQ0 := Lib.hid hq
               clear hq
               generalize u1.heap.size = p0 at *)
            | (go_at_call 21
               with_reducible refine (HF4.out _ _ _ HQ0.out).mono ?_
               rintro e v1 ⟨rfl, hq⟩
               have HQ1 := Lib.hid hq
               clear hq)
            | (go_at_call 21
               with_reducible refine (HF1.out _ _ _ HQ1.out).mono ?_
               rintro e v2 ⟨rfl, hq⟩
               have HQ2 := Lib.hid hq
               clear hq)
            | (go_at_call 21
               with_reducible refine (HF2.out _ _ _ HQ2.out).mono ?_
               rintro e v3 ⟨rfl, hq⟩
               have HQ3 := Lib.hid hq
               clear hq))
          go_ret2
          exact ⟨rfl, HB1.out.trans (HQ3.out.below.mono HB1.out.size)⟩
        | false =>
          rw [e2] at HF2
          rw [if_neg (by rw [e2]; exact Bool.false_ne_true)] at hr
          clear e2
          subst hr
          go_enter Try.func5, Try.ntmps5
          go_wp2_with (first
            | (go_at_call 15
               with_reducible refine (HMT.out _).mono ?_
               rintro e u1 ⟨rfl, hb⟩
               have HB1 := Lib.hid (HB0.out.trans (hb.mono HB0.out.size))
               clear hb)
            | (go_at_call 16
               with_reducible refine (HAK.out _).mono ?_
               rintro e v0 ⟨rfl, hq⟩
               have HQ0 := Lib.hid hq
               clear hq
               generalize u1.heap.size = p0 at *)
            | (go_at_call 21
               with_reducible refine (HF4.out _ _ _ HQ0.out).mono ?_
               rintro e v1 ⟨rfl, hq⟩
               have HQ1 := Lib.hid hq
               clear hq)
            | (go_at_call 21
               with_reducible refine (HF1.out _ _ _ HQ1.out).mono ?_
               rintro e v2 ⟨rfl, hq⟩
               have HQ2 := Lib.hid hq
               clear hq)
            | (go_at_call 21
               with_reducible refine (HF2.out _ _ _ HQ2.out).mono ?_
               rintro e v3 ⟨rfl, hq⟩
               have HQ3 := Lib.hid hq
               clear hq))
          go_ret2
          exact ⟨rfl, HB1.out.trans (HQ3.out.below.mono HB1.out.size)⟩
set_option maxHeartbeats 4000000 in
theorem next_st (s f : Nat) (w : World) (hs : s < 256) (hf : f < 256) : Calls Try.prog 7 #[.int .u8 (s : Int), .int .u8 (f : Int)] w (ret (.tuple #[.int .u8 ((fsN s f).1 : Int), .int .u8 ((fsN s f).2.1 : Int), .int .i64 (fsN s f).2.2]) w) := by
  have HMT : Hid (∀ W : World, Calls Try.prog 15 #[.int .u8 (f : Int)] W (ret (.bool (mayFl f)) W)) := Lib.hid fun W => fmay_any f hf W
  have HAK : Hid (∀ W : World, Calls Try.prog 16 #[.int .u8 (f : Int)] W fun e W' => e = .returned (.func (.func 21) #[] #[.pointer (some ⟨W.heap.size, 0, none⟩)]) ∧ AskQ W.heap.size f W W') := Lib.hid fun W => asker_any f W
  have HF1 : Hid (∀ (p : Nat) (u W : World), AskQ p f u W → Calls Try.prog 21 #[.int .u8 1, .pointer (some ⟨p, 0, none⟩)] W fun e W' => e = .returned (.bool (hasF f 1)) ∧ AskQ p f u W') := Lib.hid fun p u W h => ask_flag (b := 1) hf (.inl rfl) h
  have HF2 : Hid (∀ (p : Nat) (u W : World), AskQ p f u W → Calls Try.prog 21 #[.int .u8 2, .pointer (some ⟨p, 0, none⟩)] W fun e W' => e = .returned (.bool (hasF f 2)) ∧ AskQ p f u W') := Lib.hid fun p u W h => ask_flag (b := 2) hf (.inr (.inl rfl)) h
  have HF4 : Hid (∀ (p : Nat) (u W : World), AskQ p f u W → Calls Try.prog 21 #[.int .u8 4, .pointer (some ⟨p, 0, none⟩)] W fun e W' => e = .returned (.bool (hasF f 4)) ∧ AskQ p f u W') := Lib.hid fun p u W h => ask_flag (b := 4) hf (.inr (.inr (.inl rfl))) h
  have HF16 : Hid (∀ (p : Nat) (u W : World), AskQ p f u W → Calls Try.prog 21 #[.int .u8 16, .pointer (some ⟨p, 0, none⟩)] W fun e W' => e = .returned (.bool (hasF f 16)) ∧ AskQ p f u W') := Lib.hid fun p u W h => ask_flag (b := 16) hf (.inr (.inr (.inr rfl))) h
  have HMS : Hid (∀ W : World, Calls Try.prog 9 #[.int .u8 (s : Int)] W (ret (.bool (fsM s)) W)) := Lib.hid fun W => may_st s W hs
  obtain ⟨r, hr⟩ : ∃ r, r = fsN s f := ⟨_, rfl⟩
  rw [← hr]
  unfold fsN at hr
  by_cases e1 : s = 1
  · rw [if_pos e1] at hr
    subst hr
    have q1 : ((s : Int) == 1) = true := by simp; omega
    rw [show fsM s = true by unfold fsM; simp; omega] at HMS
    have HE := Lib.hid e1
    clear hs e1
    go_enter Try.func7, Try.ntmps7
    go_wp2_with (first
    | (go_at_call 9
       with_reducible refine (HMS.out _).mono ?_
       rintro e u0 ⟨rfl, hb⟩
       have HB0 := Lib.hid hb
       clear hb))
    go_ret3
    exact ⟨by rw [HE.out]; rfl, HB0.out⟩
  rw [if_neg e1] at hr
  by_cases e2 : s < 1 ∨ 4 < s
  · rw [if_pos e2] at hr
    subst hr
    rw [show fsM s = false by unfold fsM; simp; omega] at HMS
    clear hs e1 e2
    go_enter Try.func7, Try.ntmps7
    go_wp2_with (first
    | (go_at_call 9
       with_reducible refine (HMS.out _).mono ?_
       rintro e u0 ⟨rfl, hb⟩
       have HB0 := Lib.hid hb
       clear hb))
    go_ret3
    exact ⟨rfl, HB0.out⟩
  rw [if_neg e2] at hr
  rw [show fsM s = true by unfold fsM; simp; omega] at HMS
  cases em : mayFl f with
  | false =>
    rw [em] at HMT
    rw [if_pos em] at hr
    subst hr
    have q1 : ((s : Int) == 1) = false := by simp; omega
    clear em e1 e2 hs
    go_enter Try.func7, Try.ntmps7
    go_wp2_with (first
    | (go_at_call 9
       with_reducible refine (HMS.out _).mono ?_
       rintro e u0 ⟨rfl, hb⟩
       have HB0 := Lib.hid hb
       clear hb)
    | (go_at_call 15
       with_reducible refine (HMT.out _).mono ?_
       rintro e u1 ⟨rfl, hb⟩
       have HB1 := Lib.hid (HB0.out.trans (hb.mono HB0.out.size))
       clear hb))
    go_ret3
    exact ⟨rfl, HB1.out⟩
  | true =>
    rw [em] at HMT
    rw [if_neg (by rw [em]; decide)] at hr
    clear em
    have e3 : s = 2 ∨ s = 3 ∨ s = 4 := by omega
    have q1 : ((s : Int) == 1) = false := by simp; omega
    clear e1 e2 hs
    rcases e3 with h | h | h
    · have es : (s == 4) = false := by rw [h]; rfl
      have ez : (s == 2) = true := by rw [h]; rfl
      have q4 : ((s : Int) == 4) = false := by simp; omega
      have q2 : ((s : Int) == 2) = true := by simp; omega
      clear h
      cases e4 : hasF f 4 with
      | true =>
        rw [e4] at HF4
        simp only [es, ez, e4] at hr
        have hr' : r = _ := hr.trans rfl
        clear hr es ez e4
        subst hr'
        go_enter Try.func7, Try.ntmps7
        go_wp2_with (first
          | (go_at_call 9
             with_reducible refine (HMS.out _).mono ?_
             rintro e u0 ⟨rfl, hb⟩
             have HB0 := Lib.hid hb
             clear hb)
          | (go_at_call 15
             with_reducible refine (HMT.out _).mono ?_
             rintro e u1 ⟨rfl, hb⟩
             have HB1 := Lib.hid (HB0.out.trans (hb.mono HB0.out.size))
             clear hb)
          | (go_at_call 16
             with_reducible refine (HAK.out _).mono ?_
             rintro e v0 ⟨rfl, hq⟩
             have HQ0 := Lib.hid hq
             clear hq
             generalize u1.heap.size = p0 at *)
          | (go_at_call 21
             with_reducible refine (HF4.out _ _ _ HQ0.out).mono ?_
             rintro e v1 ⟨rfl, hq⟩
             have HQ1 := Lib.hid hq
             clear hq))
        go_ret3
        exact ⟨rfl, HB1.out.trans (HQ1.out.below.mono HB1.out.size)⟩
      | false =>
        rw [e4] at HF4
        cases e1 : hasF f 1 with
        | true =>
          rw [e1] at HF1
          simp only [es, ez, e4, e1] at hr
          have hr' : r = _ := hr.trans rfl
          clear hr es ez e4 e1
          subst hr'
          go_enter Try.func7, Try.ntmps7
          go_wp2_with (first
            | (go_at_call 9
               with_reducible refine (HMS.out _).mono ?_
               rintro e u0 ⟨rfl, hb⟩
               have HB0 := Lib.hid hb
               clear hb)
            | (go_at_call 15
               with_reducible refine (HMT.out _).mono ?_
               rintro e u1 ⟨rfl, hb⟩
               have HB1 := Lib.hid (HB0.out.trans (hb.mono HB0.out.size))
               clear hb)
            | (go_at_call 16
               with_reducible refine (HAK.out _).mono ?_
               rintro e v0 ⟨rfl, hq⟩
               have HQ0 := Lib.hid hq
               clear hq
               generalize u1.heap.size = p0 at *)
            | (go_at_call 21
               with_reducible refine (HF4.out _ _ _ HQ0.out).mono ?_
               rintro e v1 ⟨rfl, hq⟩
               have HQ1 := Lib.hid hq
               clear hq)
            | (go_at_call 21
               with_reducible refine (HF1.out _ _ _ HQ1.out).mono ?_
               rintro e v2 ⟨rfl, hq⟩
               have HQ2 := Lib.hid hq
               clear hq))
          go_ret3
          exact ⟨rfl, HB1.out.trans (HQ2.out.below.mono HB1.out.size)⟩
        | false =>
          rw [e1] at HF1
          cases e16 : hasF f 16 with
          | true =>
            rw [e16] at HF16
            cases e2 : hasF f 2 with
            | true =>
              rw [e2] at HF2
              simp only [es, ez, e4, e1, e16, e2] at hr
              have hr' : r = _ := hr.trans rfl
              clear hr es ez e4 e1 e16 e2
              subst hr'
              go_enter Try.func7, Try.ntmps7
              go_wp2_with (first
                | (go_at_call 9
                   with_reducible refine (HMS.out _).mono ?_
                   rintro e u0 ⟨rfl, hb⟩
                   have HB0 := Lib.hid hb
                   clear hb)
                | (go_at_call 15
                   with_reducible refine (HMT.out _).mono ?_
                   rintro e u1 ⟨rfl, hb⟩
                   have HB1 := Lib.hid (HB0.out.trans (hb.mono HB0.out.size))
                   clear hb)
                | (go_at_call 16
                   with_reducible refine (HAK.out _).mono ?_
                   rintro e v0 ⟨rfl, hq⟩
                   have HQ0 := Lib.hid hq
                   clear hq
                   generalize u1.heap.size = p0 at *)
                | (go_at_call 21
                   with_reducible refine (HF4.out _ _ _ HQ0.out).mono ?_
                   rintro e v1 ⟨rfl, hq⟩
                   have HQ1 := Lib.hid hq
                   clear hq)
                | (go_at_call 21
                   with_reducible refine (HF1.out _ _ _ HQ1.out).mono ?_
                   rintro e v2 ⟨rfl, hq⟩
                   have HQ2 := Lib.hid hq
                   clear hq)
                | (go_at_call 21
                   with_reducible refine (HF16.out _ _ _ HQ2.out).mono ?_
                   rintro e v3 ⟨rfl, hq⟩
                   have HQ3 := Lib.hid hq
                   clear hq)
                | (go_at_call 21
                   with_reducible refine (HF2.out _ _ _ HQ3.out).mono ?_
                   rintro e v4 ⟨rfl, hq⟩
                   have HQ4 := Lib.hid hq
                   clear hq))
              go_ret3
              exact ⟨rfl, HB1.out.trans (HQ4.out.below.mono HB1.out.size)⟩
            | false =>
              rw [e2] at HF2
              simp only [es, ez, e4, e1, e16, e2] at hr
              have hr' : r = _ := hr.trans rfl
              clear hr es ez e4 e1 e16 e2
              subst hr'
              go_enter Try.func7, Try.ntmps7
              go_wp2_with (first
                | (go_at_call 9
                   with_reducible refine (HMS.out _).mono ?_
                   rintro e u0 ⟨rfl, hb⟩
                   have HB0 := Lib.hid hb
                   clear hb)
                | (go_at_call 15
                   with_reducible refine (HMT.out _).mono ?_
                   rintro e u1 ⟨rfl, hb⟩
                   have HB1 := Lib.hid (HB0.out.trans (hb.mono HB0.out.size))
                   clear hb)
                | (go_at_call 16
                   with_reducible refine (HAK.out _).mono ?_
                   rintro e v0 ⟨rfl, hq⟩
                   have HQ0 := Lib.hid hq
                   clear hq
                   generalize u1.heap.size = p0 at *)
                | (go_at_call 21
                   with_reducible refine (HF4.out _ _ _ HQ0.out).mono ?_
                   rintro e v1 ⟨rfl, hq⟩
                   have HQ1 := Lib.hid hq
                   clear hq)
                | (go_at_call 21
                   with_reducible refine (HF1.out _ _ _ HQ1.out).mono ?_
                   rintro e v2 ⟨rfl, hq⟩
                   have HQ2 := Lib.hid hq
                   clear hq)
                | (go_at_call 21
                   with_reducible refine (HF16.out _ _ _ HQ2.out).mono ?_
                   rintro e v3 ⟨rfl, hq⟩
                   have HQ3 := Lib.hid hq
                   clear hq)
                | (go_at_call 21
                   with_reducible refine (HF2.out _ _ _ HQ3.out).mono ?_
                   rintro e v4 ⟨rfl, hq⟩
                   have HQ4 := Lib.hid hq
                   clear hq))
              go_ret3
              exact ⟨rfl, HB1.out.trans (HQ4.out.below.mono HB1.out.size)⟩
          | false =>
            rw [e16] at HF16
            simp only [es, ez, e4, e1, e16] at hr
            have hr' : r = _ := hr.trans rfl
            clear hr es ez e4 e1 e16
            subst hr'
            go_enter Try.func7, Try.ntmps7
            go_wp2_with (first
              | (go_at_call 9
                 with_reducible refine (HMS.out _).mono ?_
                 rintro e u0 ⟨rfl, hb⟩
                 have HB0 := Lib.hid hb
                 clear hb)
              | (go_at_call 15
                 with_reducible refine (HMT.out _).mono ?_
                 rintro e u1 ⟨rfl, hb⟩
                 have HB1 := Lib.hid (HB0.out.trans (hb.mono HB0.out.size))
                 clear hb)
              | (go_at_call 16
                 with_reducible refine (HAK.out _).mono ?_
                 rintro e v0 ⟨rfl, hq⟩
                 have HQ0 := Lib.hid hq
                 clear hq
                 generalize u1.heap.size = p0 at *)
              | (go_at_call 21
                 with_reducible refine (HF4.out _ _ _ HQ0.out).mono ?_
                 rintro e v1 ⟨rfl, hq⟩
                 have HQ1 := Lib.hid hq
                 clear hq)
              | (go_at_call 21
                 with_reducible refine (HF1.out _ _ _ HQ1.out).mono ?_
                 rintro e v2 ⟨rfl, hq⟩
                 have HQ2 := Lib.hid hq
                 clear hq)
              | (go_at_call 21
                 with_reducible refine (HF16.out _ _ _ HQ2.out).mono ?_
                 rintro e v3 ⟨rfl, hq⟩
                 have HQ3 := Lib.hid hq
                 clear hq))
            go_ret3
            exact ⟨rfl, HB1.out.trans (HQ3.out.below.mono HB1.out.size)⟩
    · have es : (s == 4) = false := by rw [h]; rfl
      have ez : (s == 2) = false := by rw [h]; rfl
      have q4 : ((s : Int) == 4) = false := by simp; omega
      have q2 : ((s : Int) == 2) = false := by simp; omega
      clear h
      cases e4 : hasF f 4 with
      | true =>
        rw [e4] at HF4
        simp only [es, ez, e4] at hr
        have hr' : r = _ := hr.trans rfl
        clear hr es ez e4
        subst hr'
        go_enter Try.func7, Try.ntmps7
        go_wp2_with (first
          | (go_at_call 9
             with_reducible refine (HMS.out _).mono ?_
             rintro e u0 ⟨rfl, hb⟩
             have HB0 := Lib.hid hb
             clear hb)
          | (go_at_call 15
             with_reducible refine (HMT.out _).mono ?_
             rintro e u1 ⟨rfl, hb⟩
             have HB1 := Lib.hid (HB0.out.trans (hb.mono HB0.out.size))
             clear hb)
          | (go_at_call 16
             with_reducible refine (HAK.out _).mono ?_
             rintro e v0 ⟨rfl, hq⟩
             have HQ0 := Lib.hid hq
             clear hq
             generalize u1.heap.size = p0 at *)
          | (go_at_call 21
             with_reducible refine (HF4.out _ _ _ HQ0.out).mono ?_
             rintro e v1 ⟨rfl, hq⟩
             have HQ1 := Lib.hid hq
             clear hq))
        go_ret3
        exact ⟨rfl, HB1.out.trans (HQ1.out.below.mono HB1.out.size)⟩
      | false =>
        rw [e4] at HF4
        cases e1 : hasF f 1 with
        | true =>
          rw [e1] at HF1
          simp only [es, ez, e4, e1] at hr
          have hr' : r = _ := hr.trans rfl
          clear hr es ez e4 e1
          subst hr'
          go_enter Try.func7, Try.ntmps7
          go_wp2_with (first
            | (go_at_call 9
               with_reducible refine (HMS.out _).mono ?_
               rintro e u0 ⟨rfl, hb⟩
               have HB0 := Lib.hid hb
               clear hb)
            | (go_at_call 15
               with_reducible refine (HMT.out _).mono ?_
               rintro e u1 ⟨rfl, hb⟩
               have HB1 := Lib.hid (HB0.out.trans (hb.mono HB0.out.size))
               clear hb)
            | (go_at_call 16
               with_reducible refine (HAK.out _).mono ?_
               rintro e v0 ⟨rfl, hq⟩
               have HQ0 := Lib.hid hq
               clear hq
               generalize u1.heap.size = p0 at *)
            | (go_at_call 21
               with_reducible refine (HF4.out _ _ _ HQ0.out).mono ?_
               rintro e v1 ⟨rfl, hq⟩
               have HQ1 := Lib.hid hq
               clear hq)
            | (go_at_call 21
               with_reducible refine (HF1.out _ _ _ HQ1.out).mono ?_
               rintro e v2 ⟨rfl, hq⟩
               have HQ2 := Lib.hid hq
               clear hq))
          go_ret3
          exact ⟨rfl, HB1.out.trans (HQ2.out.below.mono HB1.out.size)⟩
        | false =>
          rw [e1] at HF1
          simp only [es, ez, e4, e1] at hr
          have hr' : r = _ := hr.trans rfl
          clear hr es ez e4 e1
          subst hr'
          go_enter Try.func7, Try.ntmps7
          go_wp2_with (first
            | (go_at_call 9
               with_reducible refine (HMS.out _).mono ?_
               rintro e u0 ⟨rfl, hb⟩
               have HB0 := Lib.hid hb
               clear hb)
            | (go_at_call 15
               with_reducible refine (HMT.out _).mono ?_
               rintro e u1 ⟨rfl, hb⟩
               have HB1 := Lib.hid (HB0.out.trans (hb.mono HB0.out.size))
               clear hb)
            | (go_at_call 16
               with_reducible refine (HAK.out _).mono ?_
               rintro e v0 ⟨rfl, hq⟩
               have HQ0 := Lib.hid hq
               clear hq
               generalize u1.heap.size = p0 at *)
            | (go_at_call 21
               with_reducible refine (HF4.out _ _ _ HQ0.out).mono ?_
               rintro e v1 ⟨rfl, hq⟩
               have HQ1 := Lib.hid hq
               clear hq)
            | (go_at_call 21
               with_reducible refine (HF1.out _ _ _ HQ1.out).mono ?_
               rintro e v2 ⟨rfl, hq⟩
               have HQ2 := Lib.hid hq
               clear hq))
          go_ret3
          exact ⟨rfl, HB1.out.trans (HQ2.out.below.mono HB1.out.size)⟩
    · have es : (s == 4) = true := by rw [h]; rfl
      have ez : (s == 2) = false := by rw [h]; rfl
      have q4 : ((s : Int) == 4) = true := by simp; omega
      have q2 : ((s : Int) == 2) = false := by simp; omega
      clear h
      cases e2 : hasF f 2 with
      | true =>
        rw [e2] at HF2
        cases e16 : hasF f 16 with
        | true =>
          rw [e16] at HF16
          cases e4 : hasF f 4 with
          | true =>
            rw [e4] at HF4
            simp only [es, ez, e2, e16, e4] at hr
            have hr' : r = _ := hr.trans rfl
            clear hr es ez e2 e16 e4
            subst hr'
            go_enter Try.func7, Try.ntmps7
            go_wp2_with (first
              | (go_at_call 9
                 with_reducible refine (HMS.out _).mono ?_
                 rintro e u0 ⟨rfl, hb⟩
                 have HB0 := Lib.hid hb
                 clear hb)
              | (go_at_call 15
                 with_reducible refine (HMT.out _).mono ?_
                 rintro e u1 ⟨rfl, hb⟩
                 have HB1 := Lib.hid (HB0.out.trans (hb.mono HB0.out.size))
                 clear hb)
              | (go_at_call 16
                 with_reducible refine (HAK.out _).mono ?_
                 rintro e v0 ⟨rfl, hq⟩
                 have HQ0 := Lib.hid hq
                 clear hq
                 generalize u1.heap.size = p0 at *)
              | (go_at_call 21
                 with_reducible refine (HF2.out _ _ _ HQ0.out).mono ?_
                 rintro e v1 ⟨rfl, hq⟩
                 have HQ1 := Lib.hid hq
                 clear hq)
              | (go_at_call 21
                 with_reducible refine (HF16.out _ _ _ HQ1.out).mono ?_
                 rintro e v2 ⟨rfl, hq⟩
                 have HQ2 := Lib.hid hq
                 clear hq)
              | (go_at_call 21
                 with_reducible refine (HF4.out _ _ _ HQ2.out).mono ?_
                 rintro e v3 ⟨rfl, hq⟩
                 have HQ3 := Lib.hid hq
                 clear hq))
            go_ret3
            exact ⟨rfl, HB1.out.trans (HQ3.out.below.mono HB1.out.size)⟩
          | false =>
            rw [e4] at HF4
            cases e1 : hasF f 1 with
            | true =>
              rw [e1] at HF1
              simp only [es, ez, e2, e16, e4, e1] at hr
              have hr' : r = _ := hr.trans rfl
              clear hr es ez e2 e16 e4 e1
              subst hr'
              go_enter Try.func7, Try.ntmps7
              go_wp2_with (first
                | (go_at_call 9
                   with_reducible refine (HMS.out _).mono ?_
                   rintro e u0 ⟨rfl, hb⟩
                   have HB0 := Lib.hid hb
                   clear hb)
                | (go_at_call 15
                   with_reducible refine (HMT.out _).mono ?_
                   rintro e u1 ⟨rfl, hb⟩
                   have HB1 := Lib.hid (HB0.out.trans (hb.mono HB0.out.size))
                   clear hb)
                | (go_at_call 16
                   with_reducible refine (HAK.out _).mono ?_
                   rintro e v0 ⟨rfl, hq⟩
                   have HQ0 := Lib.hid hq
                   clear hq
                   generalize u1.heap.size = p0 at *)
                | (go_at_call 21
                   with_reducible refine (HF2.out _ _ _ HQ0.out).mono ?_
                   rintro e v1 ⟨rfl, hq⟩
                   have HQ1 := Lib.hid hq
                   clear hq)
                | (go_at_call 21
                   with_reducible refine (HF16.out _ _ _ HQ1.out).mono ?_
                   rintro e v2 ⟨rfl, hq⟩
                   have HQ2 := Lib.hid hq
                   clear hq)
                | (go_at_call 21
                   with_reducible refine (HF4.out _ _ _ HQ2.out).mono ?_
                   rintro e v3 ⟨rfl, hq⟩
                   have HQ3 := Lib.hid hq
                   clear hq)
                | (go_at_call 21
                   with_reducible refine (HF1.out _ _ _ HQ3.out).mono ?_
                   rintro e v4 ⟨rfl, hq⟩
                   have HQ4 := Lib.hid hq
                   clear hq))
              go_ret3
              exact ⟨rfl, HB1.out.trans (HQ4.out.below.mono HB1.out.size)⟩
            | false =>
              rw [e1] at HF1
              simp only [es, ez, e2, e16, e4, e1] at hr
              have hr' : r = _ := hr.trans rfl
              clear hr es ez e2 e16 e4 e1
              subst hr'
              go_enter Try.func7, Try.ntmps7
              go_wp2_with (first
                | (go_at_call 9
                   with_reducible refine (HMS.out _).mono ?_
                   rintro e u0 ⟨rfl, hb⟩
                   have HB0 := Lib.hid hb
                   clear hb)
                | (go_at_call 15
                   with_reducible refine (HMT.out _).mono ?_
                   rintro e u1 ⟨rfl, hb⟩
                   have HB1 := Lib.hid (HB0.out.trans (hb.mono HB0.out.size))
                   clear hb)
                | (go_at_call 16
                   with_reducible refine (HAK.out _).mono ?_
                   rintro e v0 ⟨rfl, hq⟩
                   have HQ0 := Lib.hid hq
                   clear hq
                   generalize u1.heap.size = p0 at *)
                | (go_at_call 21
                   with_reducible refine (HF2.out _ _ _ HQ0.out).mono ?_
                   rintro e v1 ⟨rfl, hq⟩
                   have HQ1 := Lib.hid hq
                   clear hq)
                | (go_at_call 21
                   with_reducible refine (HF16.out _ _ _ HQ1.out).mono ?_
                   rintro e v2 ⟨rfl, hq⟩
                   have HQ2 := Lib.hid hq
                   clear hq)
                | (go_at_call 21
                   with_reducible refine (HF4.out _ _ _ HQ2.out).mono ?_
                   rintro e v3 ⟨rfl, hq⟩
                   have HQ3 := Lib.hid hq
                   clear hq)
                | (go_at_call 21
                   with_reducible refine (HF1.out _ _ _ HQ3.out).mono ?_
                   rintro e v4 ⟨rfl, hq⟩
                   have HQ4 := Lib.hid hq
                   clear hq))
              go_ret3
              exact ⟨rfl, HB1.out.trans (HQ4.out.below.mono HB1.out.size)⟩
        | false =>
          rw [e16] at HF16
          simp only [es, ez, e2, e16] at hr
          have hr' : r = _ := hr.trans rfl
          clear hr es ez e2 e16
          subst hr'
          go_enter Try.func7, Try.ntmps7
          go_wp2_with (first
            | (go_at_call 9
               with_reducible refine (HMS.out _).mono ?_
               rintro e u0 ⟨rfl, hb⟩
               have HB0 := Lib.hid hb
               clear hb)
            | (go_at_call 15
               with_reducible refine (HMT.out _).mono ?_
               rintro e u1 ⟨rfl, hb⟩
               have HB1 := Lib.hid (HB0.out.trans (hb.mono HB0.out.size))
               clear hb)
            | (go_at_call 16
               with_reducible refine (HAK.out _).mono ?_
               rintro e v0 ⟨rfl, hq⟩
               have HQ0 := Lib.hid hq
               clear hq
               generalize u1.heap.size = p0 at *)
            | (go_at_call 21
               with_reducible refine (HF2.out _ _ _ HQ0.out).mono ?_
               rintro e v1 ⟨rfl, hq⟩
               have HQ1 := Lib.hid hq
               clear hq)
            | (go_at_call 21
               with_reducible refine (HF16.out _ _ _ HQ1.out).mono ?_
               rintro e v2 ⟨rfl, hq⟩
               have HQ2 := Lib.hid hq
               clear hq))
          go_ret3
          exact ⟨rfl, HB1.out.trans (HQ2.out.below.mono HB1.out.size)⟩
      | false =>
        rw [e2] at HF2
        cases e4 : hasF f 4 with
        | true =>
          rw [e4] at HF4
          simp only [es, ez, e2, e4] at hr
          have hr' : r = _ := hr.trans rfl
          clear hr es ez e2 e4
          subst hr'
          go_enter Try.func7, Try.ntmps7
          go_wp2_with (first
            | (go_at_call 9
               with_reducible refine (HMS.out _).mono ?_
               rintro e u0 ⟨rfl, hb⟩
               have HB0 := Lib.hid hb
               clear hb)
            | (go_at_call 15
               with_reducible refine (HMT.out _).mono ?_
               rintro e u1 ⟨rfl, hb⟩
               have HB1 := Lib.hid (HB0.out.trans (hb.mono HB0.out.size))
               clear hb)
            | (go_at_call 16
               with_reducible refine (HAK.out _).mono ?_
               rintro e v0 ⟨rfl, hq⟩
               have HQ0 := Lib.hid hq
               clear hq
               generalize u1.heap.size = p0 at *)
            | (go_at_call 21
               with_reducible refine (HF2.out _ _ _ HQ0.out).mono ?_
               rintro e v1 ⟨rfl, hq⟩
               have HQ1 := Lib.hid hq
               clear hq)
            | (go_at_call 21
               with_reducible refine (HF4.out _ _ _ HQ1.out).mono ?_
               rintro e v2 ⟨rfl, hq⟩
               have HQ2 := Lib.hid hq
               clear hq))
          go_ret3
          exact ⟨rfl, HB1.out.trans (HQ2.out.below.mono HB1.out.size)⟩
        | false =>
          rw [e4] at HF4
          cases e1 : hasF f 1 with
          | true =>
            rw [e1] at HF1
            simp only [es, ez, e2, e4, e1] at hr
            have hr' : r = _ := hr.trans rfl
            clear hr es ez e2 e4 e1
            subst hr'
            go_enter Try.func7, Try.ntmps7
            go_wp2_with (first
              | (go_at_call 9
                 with_reducible refine (HMS.out _).mono ?_
                 rintro e u0 ⟨rfl, hb⟩
                 have HB0 := Lib.hid hb
                 clear hb)
              | (go_at_call 15
                 with_reducible refine (HMT.out _).mono ?_
                 rintro e u1 ⟨rfl, hb⟩
                 have HB1 := Lib.hid (HB0.out.trans (hb.mono HB0.out.size))
                 clear hb)
              | (go_at_call 16
                 with_reducible refine (HAK.out _).mono ?_
                 rintro e v0 ⟨rfl, hq⟩
                 have HQ0 := Lib.hid hq
                 clear hq
                 generalize u1.heap.size = p0 at *)
              | (go_at_call 21
                 with_reducible refine (HF2.out _ _ _ HQ0.out).mono ?_
                 rintro e v1 ⟨rfl, hq⟩
                 have HQ1 := Lib.hid hq
                 clear hq)
              | (go_at_call 21
                 with_reducible refine (HF4.out _ _ _ HQ1.out).mono ?_
                 rintro e v2 ⟨rfl, hq⟩
                 have HQ2 := Lib.hid hq
                 clear hq)
              | (go_at_call 21
                 with_reducible refine (HF1.out _ _ _ HQ2.out).mono ?_
                 rintro e v3 ⟨rfl, hq⟩
                 have HQ3 := Lib.hid hq
                 clear hq))
            go_ret3
            exact ⟨rfl, HB1.out.trans (HQ3.out.below.mono HB1.out.size)⟩
          | false =>
            rw [e1] at HF1
            simp only [es, ez, e2, e4, e1] at hr
            have hr' : r = _ := hr.trans rfl
            clear hr es ez e2 e4 e1
            subst hr'
            go_enter Try.func7, Try.ntmps7
            go_wp2_with (first
              | (go_at_call 9
                 with_reducible refine (HMS.out _).mono ?_
                 rintro e u0 ⟨rfl, hb⟩
                 have HB0 := Lib.hid hb
                 clear hb)
              | (go_at_call 15
                 with_reducible refine (HMT.out _).mono ?_
                 rintro e u1 ⟨rfl, hb⟩
                 have HB1 := Lib.hid (HB0.out.trans (hb.mono HB0.out.size))
                 clear hb)
              | (go_at_call 16
                 with_reducible refine (HAK.out _).mono ?_
                 rintro e v0 ⟨rfl, hq⟩
                 have HQ0 := Lib.hid hq
                 clear hq
                 generalize u1.heap.size = p0 at *)
              | (go_at_call 21
                 with_reducible refine (HF2.out _ _ _ HQ0.out).mono ?_
                 rintro e v1 ⟨rfl, hq⟩
                 have HQ1 := Lib.hid hq
                 clear hq)
              | (go_at_call 21
                 with_reducible refine (HF4.out _ _ _ HQ1.out).mono ?_
                 rintro e v2 ⟨rfl, hq⟩
                 have HQ2 := Lib.hid hq
                 clear hq)
              | (go_at_call 21
                 with_reducible refine (HF1.out _ _ _ HQ2.out).mono ?_
                 rintro e v3 ⟨rfl, hq⟩
                 have HQ3 := Lib.hid hq
                 clear hq))
            go_ret3
            exact ⟨rfl, HB1.out.trans (HQ3.out.below.mono HB1.out.size)⟩
theorem fsT1_of (x : Nat) : (x < 1 ∧ fsT1 x = false) ∨ (1048576 < x ∧ ¬ x < 1 ∧ fsT1 x = false) ∨ (¬ x < 1 ∧ ¬ 1048576 < x ∧ fsT1 x = true) := by
  unfold fsT1
  by_cases h1 : x < 1
  · exact .inl ⟨h1, by simp; omega⟩
  · by_cases h2 : 1048576 < x
    · exact .inr (.inl ⟨h2, h1, by simp; omega⟩)
    · exact .inr (.inr ⟨h1, h2, by simp; omega⟩)
set_option maxHeartbeats 2000000 in
theorem mayT_st (a b c d : Nat) (w : World) : Calls Try.prog 10 #[.agg #[.int .u32 (a : Int), .int .u32 (b : Int), .int .u32 (c : Int), .int .u32 (d : Int)]] w (ret (.bool (fsT a b c d)) w) := by
  have HBY : Hid (∀ W : World, Calls Try.prog 20 #[.agg #[.int .u32 (a : Int), .int .u32 (b : Int), .int .u32 (c : Int), .int .u32 (d : Int)]] W (ret (.agg #[.int .u32 (a : Int), .int .u32 (b : Int), .int .u32 (c : Int), .int .u32 (d : Int)]) W)) := Lib.hid fun W => byst_any a b c d W
  have i0 : ∀ W : World, (Instr.index 43 (.agg #[.int .u32 (a : Int), .int .u32 (b : Int), .int .u32 (c : Int), .int .u32 (d : Int)]) (.int .i64 0)).run Try.prog W = .ok (.int .u32 (a : Int)) W := fun _ => by kernel_rfl
  have i1 : ∀ W : World, (Instr.index 43 (.agg #[.int .u32 (a : Int), .int .u32 (b : Int), .int .u32 (c : Int), .int .u32 (d : Int)]) (.int .i64 1)).run Try.prog W = .ok (.int .u32 (b : Int)) W := fun _ => by kernel_rfl
  have i2 : ∀ W : World, (Instr.index 43 (.agg #[.int .u32 (a : Int), .int .u32 (b : Int), .int .u32 (c : Int), .int .u32 (d : Int)]) (.int .i64 2)).run Try.prog W = .ok (.int .u32 (c : Int)) W := fun _ => by kernel_rfl
  have i3 : ∀ W : World, (Instr.index 43 (.agg #[.int .u32 (a : Int), .int .u32 (b : Int), .int .u32 (c : Int), .int .u32 (d : Int)]) (.int .i64 3)).run Try.prog W = .ok (.int .u32 (d : Int)) W := fun _ => by kernel_rfl
  have HBA : Hid (Below w.heap.size w (w.alloc (.cells #[.int .u32 (a : Int), .int .u32 (b : Int), .int .u32 (c : Int), .int .u32 (d : Int)] 24))) := Lib.hid (below_alloc w _)
  obtain ⟨R, hR⟩ : ∃ R, R = fsT a b c d := ⟨_, rfl⟩
  rw [← hR]
  unfold fsT at hR
  have HR := Lib.hid hR
  clear hR
  go_enter Try.func10, Try.ntmps10
  go_wp2_with (first
    | (go_at_call 20
       refine (HBY.out _).mono ?_
       rintro e u1 ⟨rfl, hb⟩
       have HB1 := Lib.hid (HBA.out.trans (hb.mono HBA.out.size))
       clear hb))
  refine wp_loop_rounds 5 ?_
  rw [rounds_succ]
  rcases fsT1_of a with ⟨q, e⟩ | ⟨q, q', e⟩ | ⟨q, q', e⟩
  · have z1 : (a : Int) < 1 := by omega
    have HF : Hid (R = false) := Lib.hid (by rw [HR.out, e]; simp)
    clear q e
    go_wp2_with fail
    go_ret
    exact ⟨by rw [HF.out]; rfl, HB1.out⟩
  · have z1 : ¬ (a : Int) < 1 := by omega
    have z2 : (1048576 : Int) < (a : Int) := by omega
    have HF : Hid (R = false) := Lib.hid (by rw [HR.out, e]; simp)
    clear q q' e
    go_wp2_with fail
    go_ret
    exact ⟨by rw [HF.out]; rfl, HB1.out⟩
  have z1 : ¬ (a : Int) < 1 := by omega
  have z2 : ¬ (1048576 : Int) < (a : Int) := by omega
  have ka := Lib.hid e
  clear q q' e
  go_wp2_with fail
  clear z1 z2
  rw [rounds_succ]
  rcases fsT1_of b with ⟨q, e⟩ | ⟨q, q', e⟩ | ⟨q, q', e⟩
  · have z1 : (b : Int) < 1 := by omega
    have HF : Hid (R = false) := Lib.hid (by rw [HR.out, ka.out, e]; simp)
    clear q e
    go_wp2_with fail
    go_ret
    exact ⟨by rw [HF.out]; rfl, HB1.out⟩
  · have z1 : ¬ (b : Int) < 1 := by omega
    have z2 : (1048576 : Int) < (b : Int) := by omega
    have HF : Hid (R = false) := Lib.hid (by rw [HR.out, ka.out, e]; simp)
    clear q q' e
    go_wp2_with fail
    go_ret
    exact ⟨by rw [HF.out]; rfl, HB1.out⟩
  have z1 : ¬ (b : Int) < 1 := by omega
  have z2 : ¬ (1048576 : Int) < (b : Int) := by omega
  have kb := Lib.hid e
  clear q q' e
  go_wp2_with fail
  clear z1 z2
  rw [rounds_succ]
  rcases fsT1_of c with ⟨q, e⟩ | ⟨q, q', e⟩ | ⟨q, q', e⟩
  · have z1 : (c : Int) < 1 := by omega
    have HF : Hid (R = false) := Lib.hid (by rw [HR.out, ka.out, kb.out, e]; simp)
    clear q e
    go_wp2_with fail
    go_ret
    exact ⟨by rw [HF.out]; rfl, HB1.out⟩
  · have z1 : ¬ (c : Int) < 1 := by omega
    have z2 : (1048576 : Int) < (c : Int) := by omega
    have HF : Hid (R = false) := Lib.hid (by rw [HR.out, ka.out, kb.out, e]; simp)
    clear q q' e
    go_wp2_with fail
    go_ret
    exact ⟨by rw [HF.out]; rfl, HB1.out⟩
  have z1 : ¬ (c : Int) < 1 := by omega
  have z2 : ¬ (1048576 : Int) < (c : Int) := by omega
  have kc := Lib.hid e
  clear q q' e
  go_wp2_with fail
  clear z1 z2
  rw [rounds_succ]
  rcases fsT1_of d with ⟨q, e⟩ | ⟨q, q', e⟩ | ⟨q, q', e⟩
  · have z1 : (d : Int) < 1 := by omega
    have HF : Hid (R = false) := Lib.hid (by rw [HR.out, ka.out, kb.out, kc.out, e]; simp)
    clear q e
    go_wp2_with fail
    go_ret
    exact ⟨by rw [HF.out]; rfl, HB1.out⟩
  · have z1 : ¬ (d : Int) < 1 := by omega
    have z2 : (1048576 : Int) < (d : Int) := by omega
    have HF : Hid (R = false) := Lib.hid (by rw [HR.out, ka.out, kb.out, kc.out, e]; simp)
    clear q q' e
    go_wp2_with fail
    go_ret
    exact ⟨by rw [HF.out]; rfl, HB1.out⟩
  have z1 : ¬ (d : Int) < 1 := by omega
  have z2 : ¬ (1048576 : Int) < (d : Int) := by omega
  have kd := Lib.hid e
  clear q q' e
  go_wp2_with fail
  clear z1 z2
  rw [rounds_succ]
  have HF : Hid (R = true) := Lib.hid (by rw [HR.out, ka.out, kb.out, kc.out, kd.out]; rfl)
  go_wp2_with fail
  go_ret
  exact ⟨by rw [HF.out]; rfl, HB1.out⟩
set_option maxHeartbeats 2000000 in
theorem ticks_st (a b c d s : Nat) (w : World) (hs : s < 256) : Calls Try.prog 12 #[.agg #[.int .u32 (a : Int), .int .u32 (b : Int), .int .u32 (c : Int), .int .u32 (d : Int)], .int .u8 (s : Int)] w (ret (.int .u32 (fsK a b c d s : Int)) w) := by
  have HBY : Hid (∀ W : World, Calls Try.prog 20 #[.agg #[.int .u32 (a : Int), .int .u32 (b : Int), .int .u32 (c : Int), .int .u32 (d : Int)]] W (ret (.agg #[.int .u32 (a : Int), .int .u32 (b : Int), .int .u32 (c : Int), .int .u32 (d : Int)]) W)) := Lib.hid fun W => byst_any a b c d W
  have HMS : Hid (∀ W : World, Calls Try.prog 9 #[.int .u8 (s : Int)] W (ret (.bool (fsM s)) W)) := Lib.hid fun W => may_st s W hs
  have i0 : ∀ W : World, (Instr.index 43 (.agg #[.int .u32 (a : Int), .int .u32 (b : Int), .int .u32 (c : Int), .int .u32 (d : Int)]) (.int .u8 0)).run Try.prog W = .ok (.int .u32 (a : Int)) W := fun _ => by kernel_rfl
  have i1 : ∀ W : World, (Instr.index 43 (.agg #[.int .u32 (a : Int), .int .u32 (b : Int), .int .u32 (c : Int), .int .u32 (d : Int)]) (.int .u8 1)).run Try.prog W = .ok (.int .u32 (b : Int)) W := fun _ => by kernel_rfl
  have i2 : ∀ W : World, (Instr.index 43 (.agg #[.int .u32 (a : Int), .int .u32 (b : Int), .int .u32 (c : Int), .int .u32 (d : Int)]) (.int .u8 2)).run Try.prog W = .ok (.int .u32 (c : Int)) W := fun _ => by kernel_rfl
  have i3 : ∀ W : World, (Instr.index 43 (.agg #[.int .u32 (a : Int), .int .u32 (b : Int), .int .u32 (c : Int), .int .u32 (d : Int)]) (.int .u8 3)).run Try.prog W = .ok (.int .u32 (d : Int)) W := fun _ => by kernel_rfl
  have HBA : Hid (Below w.heap.size w (w.alloc (.cells #[.int .u32 (a : Int), .int .u32 (b : Int), .int .u32 (c : Int), .int .u32 (d : Int)] 24))) := Lib.hid (below_alloc w _)
  have HQA : Hid ((w.alloc (.cells #[.int .u32 (a : Int), .int .u32 (b : Int), .int .u32 (c : Int), .int .u32 (d : Int)] 24)).heap[w.heap.size]? = some (.cells #[.int .u32 (a : Int), .int .u32 (b : Int), .int .u32 (c : Int), .int .u32 (d : Int)] 24 (0, 0))) := Lib.hid (heap_alloc_new w _)
  obtain ⟨r, hr⟩ : ∃ r, r = fsK a b c d s := ⟨_, rfl⟩
  rw [← hr]
  unfold fsK at hr
  by_cases e0 : s < 1 ∨ 4 < s
  · rw [if_neg (by omega), if_neg (by omega), if_neg (by omega), if_neg (by omega)] at hr
    subst hr
    rw [show fsM s = false by unfold fsM; simp; omega] at HMS
    clear e0 hs
    go_enter Try.func12, Try.ntmps12
    go_wp2_with (first
      | (go_at_call 9
         refine (HMS.out _).mono ?_
         rintro e u1 ⟨rfl, hb⟩
         have HB1 := Lib.hid (HBA.out.trans (hb.mono HBA.out.size))
         clear hb))
    go_ret
    exact ⟨rfl, HB1.out⟩
  have e4 : s = 1 ∨ s = 2 ∨ s = 3 ∨ s = 4 := by omega
  clear e0 hs
  rcases e4 with rfl | rfl | rfl | rfl
  · have hr' : r = _ := hr.trans rfl
    subst hr'
    rw [show fsM 1 = true from rfl] at HMS
    clear hr
    go_enter Try.func12, Try.ntmps12
    go_wp2_with (first
      | (go_at_call 9
         refine (HMS.out _).mono ?_
         rintro e u1 ⟨rfl, hb⟩
         have HB1 := Lib.hid (HBA.out.trans (hb.mono HBA.out.size))
         have x0 := blk_cell ((hb.block _ (lt_heap HQA.out)).trans HQA.out) 0
         have x1 := blk_cell ((hb.block _ (lt_heap HQA.out)).trans HQA.out) 1
         have x2 := blk_cell ((hb.block _ (lt_heap HQA.out)).trans HQA.out) 2
         have x3 := blk_cell ((hb.block _ (lt_heap HQA.out)).trans HQA.out) 3
         clear hb)
      | (go_at_call 20
         refine (HBY.out _).mono ?_
         rintro e u2 ⟨rfl, hb⟩
         have HB2 := Lib.hid (HB1.out.trans (hb.mono HB1.out.size))
         clear hb x0 x1 x2 x3))
    go_ret
    exact ⟨rfl, HB2.out⟩
  · have hr' : r = _ := hr.trans rfl
    subst hr'
    rw [show fsM 2 = true from rfl] at HMS
    clear hr
    go_enter Try.func12, Try.ntmps12
    go_wp2_with (first
      | (go_at_call 9
         refine (HMS.out _).mono ?_
         rintro e u1 ⟨rfl, hb⟩
         have HB1 := Lib.hid (HBA.out.trans (hb.mono HBA.out.size))
         have x0 := blk_cell ((hb.block _ (lt_heap HQA.out)).trans HQA.out) 0
         have x1 := blk_cell ((hb.block _ (lt_heap HQA.out)).trans HQA.out) 1
         have x2 := blk_cell ((hb.block _ (lt_heap HQA.out)).trans HQA.out) 2
         have x3 := blk_cell ((hb.block _ (lt_heap HQA.out)).trans HQA.out) 3
         clear hb)
      | (go_at_call 20
         refine (HBY.out _).mono ?_
         rintro e u2 ⟨rfl, hb⟩
         have HB2 := Lib.hid (HB1.out.trans (hb.mono HB1.out.size))
         clear hb x0 x1 x2 x3))
    go_ret
    exact ⟨rfl, HB2.out⟩
  · have hr' : r = _ := hr.trans rfl
    subst hr'
    rw [show fsM 3 = true from rfl] at HMS
    clear hr
    go_enter Try.func12, Try.ntmps12
    go_wp2_with (first
      | (go_at_call 9
         refine (HMS.out _).mono ?_
         rintro e u1 ⟨rfl, hb⟩
         have HB1 := Lib.hid (HBA.out.trans (hb.mono HBA.out.size))
         have x0 := blk_cell ((hb.block _ (lt_heap HQA.out)).trans HQA.out) 0
         have x1 := blk_cell ((hb.block _ (lt_heap HQA.out)).trans HQA.out) 1
         have x2 := blk_cell ((hb.block _ (lt_heap HQA.out)).trans HQA.out) 2
         have x3 := blk_cell ((hb.block _ (lt_heap HQA.out)).trans HQA.out) 3
         clear hb)
      | (go_at_call 20
         refine (HBY.out _).mono ?_
         rintro e u2 ⟨rfl, hb⟩
         have HB2 := Lib.hid (HB1.out.trans (hb.mono HB1.out.size))
         clear hb x0 x1 x2 x3))
    go_ret
    exact ⟨rfl, HB2.out⟩
  · have hr' : r = _ := hr.trans rfl
    subst hr'
    rw [show fsM 4 = true from rfl] at HMS
    clear hr
    go_enter Try.func12, Try.ntmps12
    go_wp2_with (first
      | (go_at_call 9
         refine (HMS.out _).mono ?_
         rintro e u1 ⟨rfl, hb⟩
         have HB1 := Lib.hid (HBA.out.trans (hb.mono HBA.out.size))
         have x0 := blk_cell ((hb.block _ (lt_heap HQA.out)).trans HQA.out) 0
         have x1 := blk_cell ((hb.block _ (lt_heap HQA.out)).trans HQA.out) 1
         have x2 := blk_cell ((hb.block _ (lt_heap HQA.out)).trans HQA.out) 2
         have x3 := blk_cell ((hb.block _ (lt_heap HQA.out)).trans HQA.out) 3
         clear hb)
      | (go_at_call 20
         refine (HBY.out _).mono ?_
         rintro e u2 ⟨rfl, hb⟩
         have HB2 := Lib.hid (HB1.out.trans (hb.mono HB1.out.size))
         clear hb x0 x1 x2 x3))
    go_ret
    exact ⟨rfl, HB2.out⟩
theorem fsP : FsP where
  may := fun s w h => may_st s w h
  mayT := fun a b c d w _ _ _ _ => mayT_st a b c d w
  first := fun p f w hp hf => first_st p f w hp hf
  next := fun s f w hs hf => next_st s f w hs hf
  ticks := fun a b c d s w _ _ _ _ hs => ticks_st a b c d s w hs
end Go.Proofs.Ytpdomapkagicaaa
