import Derived.Test.YtlchegibfopglaaK17
/- Layer 7's words: a packet hangs on its bytes alone, not on what stands behind them. Nothing of the program. -/
namespace Go.Proofs.Ytlchegibfopglaa
open Go.RowKit
theorem w2_same {f g : Nat → Int} (a : Nat) (h0 : g a = f a) (h1 : g (a + 1) = f (a + 1)) : w2 g a = w2 f a := by unfold w2; rw [h0, h1]
theorem tcpE_same {S : Int} {f g : Nat → Int} {n : Nat} (h : ∀ k, k < n → g k = f k) : tcpE S g n = tcpE S f n := by
  unfold tcpE
  by_cases c : n < 20
  · rw [if_pos c, if_pos c]
  · rw [h 12 (by omega), rgt_same n h]
theorem udpE_same {v6 : Bool} {S : Int} {f g : Nat → Int} {n : Nat} (h : ∀ k, k < n → g k = f k) : udpE v6 S g n = udpE v6 S f n := by
  unfold udpE
  by_cases c : n < 8
  · rw [if_pos c, if_pos c]
  · rw [w2_same 4 (h 4 (by omega)) (h 5 (by omega)), w2_same 6 (h 6 (by omega)) (h 7 (by omega)), rgt_same n h]
theorem win_same {v6 : Bool} {f g : Nat → Int} {n : Nat} (h : ∀ k, k < n → g k = f k) : win v6 g n = win v6 f n := by
  cases v6
  · show win4 g n = win4 f n
    unfold win4
    by_cases c : n < 20
    · rw [if_pos c, if_pos c]
    · rw [h 0 (by omega), w2_same 6 (h 6 (by omega)) (h 7 (by omega)), h 9 (by omega)]
  · show win6 g n = win6 f n
    unfold win6 wch
    by_cases c : n < 40
    · rw [if_pos c, if_pos c]
    · rw [h 0 (by omega), h 6 (by omega), chn_congr (f := fun k => f (40 + k)) (g := fun k => g (40 + k)) (N := n - 40) (fun j hj => h _ (by omega)) 8 (f 6) 0 (Nat.zero_le _)]
theorem winE_same {v6 : Bool} {f g : Nat → Int} {n : Nat} (h : ∀ k, k < n → g k = f k) : winE v6 g n = winE v6 f n := by
  unfold winE
  rw [win_same h]
theorem winE_ok {v6 : Bool} {f : Nat → Int} {n : Nat} (h : winE v6 f n = 0) : ∃ a P, win v6 f n = (0, a, P) ∧ a + 4 ≤ n ∧ (v6 = true → 40 ≤ a) ∧ (v6 = false → 20 ≤ a) := by
  have hw := h
  unfold winE at h
  by_cases c0 : (win v6 f n).1 ≠ 0
  · rw [if_pos c0] at h
    exact absurd h c0
  · have c0' : (win v6 f n).1 = 0 := by omega
    rw [if_neg c0] at h
    split at h
    · omega
    split at h
    · omega
    rename_i q1 q2
    refine ⟨(win v6 f n).2.1, (win v6 f n).2.2, by rw [← c0'], by omega, fun e => ?_, fun e => ?_⟩
    · subst e
      have c1 : (win6 f n).1 = 0 := c0'
      show 40 ≤ (win6 f n).2.1
      unfold win6 at c1 ⊢
      split at c1
      · exact absurd c1 (by decide)
      · rename_i r1
        rw [if_neg r1]
        split at c1
        · exact absurd c1 (by decide)
        · rename_i r2
          rw [if_neg r2]
          split at c1
          · rename_i r3; exact absurd c1 r3
          · rename_i r3
            rw [if_neg r3]
            show 40 ≤ 40 + _
            omega
    · subst e
      have c1 : (win4 f n).1 = 0 := c0'
      show 20 ≤ (win4 f n).2.1
      unfold win4 at c1 ⊢
      split at c1
      · exact absurd c1 (by decide)
      · rename_i r1
        rw [if_neg r1]
        split at c1
        · exact absurd c1 (by decide)
        · rename_i r2
          rw [if_neg r2]
          split at c1
          · exact absurd c1 (by decide)
          · rename_i r3
            rw [if_neg r3]
            split at c1
            · exact absurd c1 (by decide)
            · rename_i r4
              rw [if_neg r4]
              show 20 ≤ 4 * (f 0 % 16).toNat
              omega
theorem icE_same {v6 : Bool} {S : Int} {f g : Nat → Int} {n : Nat} (h : ∀ k, k < n → g k = f k) : icE v6 S g n = icE v6 S f n := by
  unfold icE
  by_cases c : n < 8
  · rw [if_pos c, if_pos c]
  · rw [rgt_same n h, h 0 (by omega), winE_same (f := fun k => f (8 + k)) (g := fun k => g (8 + k)) (n := n - 8) (fun k hk => h _ (by omega))]
/-- The flow of a report that was read. -/
theorem wT_same {v6 : Bool} {f g : Nat → Int} {n : Nat} (h : ∀ k, k < n → g k = f k) : wT v6 g n = wT v6 f n := by
  by_cases c : winE v6 f n = 0
  · have c' : winE v6 g n = 0 := by rw [winE_same h]; exact c
    obtain ⟨a, P, hw, ha, h6, h4⟩ := winE_ok c
    have hw' : win v6 g n = (0, a, P) := by rw [win_same h]; exact hw
    rw [wT_ok c hw, wT_ok c' hw', w2_same (a + 2) (h _ (by omega)) (h _ (by omega)), w2_same a (h _ (by omega)) (h _ (by omega))]
    refine tup_same (fun k hk => ?_) (fun k hk => ?_)
    all_goals
      cases v6
      · have := h4 rfl
        first | unfold winS winA | unfold winD winA
        rw [if_neg (show ¬ (false = true) by decide), if_neg (show ¬ (false = true) by decide)]
        by_cases hk4 : k < 4
        · rw [if_pos hk4, if_pos hk4]
          exact h _ (by omega)
        · rw [if_neg hk4, if_neg hk4]
      · have := h6 rfl
        first | unfold winS winA | unfold winD winA
        rw [if_pos rfl, if_pos rfl]
        exact h _ (by omega)
  · rw [wT_no c, wT_no (by rw [winE_same h]; exact c)]
/-- A report that was read has its flow's destination among its bytes. -/
theorem winD_same {v6 : Bool} {f g : Nat → Int} {n : Nat} (h : ∀ k, k < n → g k = f k) (c : winE v6 f n = 0) (k : Nat) (hk : k < 16) : winD v6 g k = winD v6 f k := by
  obtain ⟨a, P, hw, ha, h6, h4⟩ := winE_ok c
  cases v6
  · have := h4 rfl
    unfold winD winA
    rw [if_neg (show ¬ (false = true) by decide), if_neg (show ¬ (false = true) by decide)]
    by_cases hk4 : k < 4
    · rw [if_pos hk4, if_pos hk4]
      exact h _ (by omega)
    · rw [if_neg hk4, if_neg hk4]
  · have := h6 rfl
    unfold winD winA
    rw [if_pos rfl, if_pos rfl]
    exact h _ (by omega)
/-- A packet of IPv4, of IPv6, that was read: its bytes alone. -/
theorem rd4_same {f g : Nat → Int} (hf : Byt f) (hg : Byt g) {n n' : Nat} (h : rd4E f n = 0) (hn : tl4 f ≤ n') (hs : ∀ k, k < tl4 f → g k = f k) : rd4E g n' = 0 ∧ hl4 g = hl4 f ∧ tl4 g = tl4 f := by
  obtain ⟨a1, a2, a3, a4, _⟩ := rd4_ok hf h
  have e0 := hs 0 (by omega)
  have e1 : hl4 g = hl4 f := by unfold hl4; rw [e0]
  have e2 : tl4 g = tl4 f := by unfold tl4; rw [hs 2 (by omega), hs 3 (by omega)]
  refine ⟨?_, e1, e2⟩
  have hof : ofv g (hl4 f) = ofv f (hl4 f) := ofv_same' hf hg _ fun k hk => hs k (by omega)
  have hop : optE (fun k => g (20 + k)) (hl4 f - 20) = optE (fun k => f (20 + k)) (hl4 f - 20) := optE_congr fun k hk => hs _ (by omega)
  unfold rd4E at h ⊢
  rw [e1, e2, hof, hop, e0, hs 6 (by omega), hs 7 (by omega)]
  rw [if_neg (show ¬ n' < 20 by omega)]
  rw [if_neg (show ¬ n < 20 by omega)] at h
  split at h
  · exact absurd h (by decide)
  · rename_i r1
    rw [if_neg r1, if_neg (show ¬ n' < hl4 f by omega)]
    rw [if_neg (show ¬ n < hl4 f by omega)] at h
    split at h
    · exact absurd h (by decide)
    · rename_i r2
      rw [if_neg r2]
      split at h
      · exact absurd h (by decide)
      · rename_i r3
        rw [if_neg r3, if_neg (show ¬ n' < tl4 f by omega)]
        rw [if_neg (show ¬ n < tl4 f by omega)] at h
        exact h
theorem rd6_same {f g : Nat → Int} {n n' : Nat} (h : rd6E f n = 0) (hn : 40 + ln6 f ≤ n') (hs : ∀ k, k < 40 + ln6 f → g k = f k) : rd6E g n' = 0 ∧ ln6 g = ln6 f ∧ chn6 g = chn6 f := by
  obtain ⟨a1, a2, a3, p, m, a4, a5⟩ := rd6_ok h
  have e1 : ln6 g = ln6 f := by unfold ln6; rw [hs 4 (by omega), hs 5 (by omega)]
  have e2 : chn6 g = chn6 f := by
    unfold chn6
    rw [e1, hs 6 (by omega)]
    exact chn_congr (f := fun k => f (40 + k)) (g := fun k => g (40 + k)) (N := ln6 f) (fun j hj => hs _ (by omega)) 8 (f 6) 0 (Nat.zero_le _)
  refine ⟨?_, e1, e2⟩
  unfold rd6E
  rw [if_neg (by omega), if_neg (by rw [hs 0 (by omega)]; omega), e1, if_neg (by omega), e2, a4]
/-- .. of either. -/
theorem ot_same {v6 : Bool} {f g : Nat → Int} (hf : Byt f) (hg : Byt g) {n n' : Nat} (h : otE v6 f n = 0) (hn : otI v6 f ≤ n') (hs : ∀ k, k < otI v6 f → g k = f k) :
    otE v6 g n' = 0 ∧ otA v6 g = otA v6 f ∧ otI v6 g = otI v6 f ∧ otR v6 g = otR v6 f ∧ otP v6 g = otP v6 f ∧ otS v6 g = otS v6 f ∧ otD v6 g = otD v6 f ∧ ∀ k, k < otR v6 f → otF v6 g k = otF v6 f k := by
  obtain ⟨b1, b2, b3, b4⟩ := ot_ok hf h
  cases v6
  · obtain ⟨a1, a2, a3⟩ := rd4_same hf hg (show rd4E f n = 0 from h) hn hs
    have hi : otI false f = tl4 f := rfl
    have e1 : otA false g = otA false f := a2
    have e2 : otI false g = otI false f := a3
    obtain ⟨c1, c2, c3, _⟩ := rd4_ok hf (show rd4E f n = 0 from h)
    refine ⟨a1, e1, e2, by unfold otR; rw [e1, e2], hs 9 (by rw [hi]; omega), funext fun k => ?_, funext fun k => ?_, fun k hk => ?_⟩
    · show adr (fun k => g (12 + k)) k = adr (fun k => f (12 + k)) k
      unfold adr
      by_cases c : k < 4
      · rw [if_pos c, if_pos c]; exact hs _ (by rw [hi]; omega)
      · rw [if_neg c, if_neg c]
    · show adr (fun k => g (16 + k)) k = adr (fun k => f (16 + k)) k
      unfold adr
      by_cases c : k < 4
      · rw [if_pos c, if_pos c]; exact hs _ (by rw [hi]; omega)
      · rw [if_neg c, if_neg c]
    · unfold otF
      rw [e1]
      exact hs _ (by omega)
  · obtain ⟨a1, a2, a3⟩ := rd6_same (show rd6E f n = 0 from h) hn hs
    have hi : otI true f = 40 + ln6 f := rfl
    have e1 : otA true g = otA true f := by show 40 + (chn6 g).2.1 = 40 + (chn6 f).2.1; rw [a3]
    have e2 : otI true g = otI true f := by show 40 + ln6 g = 40 + ln6 f; rw [a2]
    refine ⟨a1, e1, e2, by unfold otR; rw [e1, e2], by show (chn6 g).1 = (chn6 f).1; rw [a3], funext fun k => ?_, funext fun k => ?_, fun k hk => ?_⟩
    · show fst16 g 8 16 k = fst16 f 8 16 k
      unfold fst16
      by_cases c : k < 16
      · rw [if_pos c, if_pos c]; exact hs _ (by rw [hi]; omega)
      · rw [if_neg c, if_neg c]
    · show fst16 g 24 16 k = fst16 f 24 16 k
      unfold fst16
      by_cases c : k < 16
      · rw [if_pos c, if_pos c]; exact hs _ (by rw [hi]; omega)
      · rw [if_neg c, if_neg c]
    · unfold otF
      rw [e1]
      exact hs _ (by omega)
theorem eqs_congr {x x' y : Nat → Int} {i n : Nat} (h : ∀ k, i ≤ k → k < i + n → x' k = x k) : eqs x' y i n = eqs x y i n := by
  have e : eqs x' y i n = true ↔ eqs x y i n = true := by
    rw [eqs_iff, eqs_iff]
    exact ⟨fun q k a b => (h k a b).symm.trans (q k a b), fun q k a b => (h k a b).trans (q k a b)⟩
  cases h1 : eqs x y i n
  · cases h2 : eqs x' y i n
    · rfl
    · exact absurd (e.1 h2) (by rw [h1]; decide)
  · exact e.2 h1
theorem udp_long {v6 : Bool} {S : Int} {f : Nat → Int} {n : Nat} (h : udpE v6 S f n = 0) : 8 ≤ n := by
  unfold udpE at h
  split at h
  · omega
  · omega
theorem icE_ok {v6 : Bool} {S : Int} {f : Nat → Int} {n : Nat} (h : icE v6 S f n = 0) : 8 ≤ n ∧ winE v6 (fun k => f (8 + k)) (n - 8) = 0 := by
  unfold icE at h
  split at h
  · omega
  split at h
  · omega
  split at h
  · omega
  exact ⟨by omega, h⟩
theorem prE_same {v6 : Bool} {P : Int} {s d r r' : Nat → Int} {n : Nat} (h : ∀ k, k < n → r' k = r k) : prE v6 P s d r' n = prE v6 P s d r n := by
  unfold prE
  rw [tcpE_same h, udpE_same h, icE_same h]
  by_cases c6 : P = 6
  · rw [if_pos c6, if_pos c6]
    by_cases ct : tcpE (psq v6 s d 6 n) r n ≠ 0
    · rw [if_pos ct, if_pos ct]
    · rw [if_neg ct, if_neg ct]
      obtain ⟨a, _⟩ := tcp_ok (S := psq v6 s d 6 n) (f := r) (n := n) (by omega)
      rw [h 13 (by omega)]
  · rw [if_neg c6, if_neg c6]
    by_cases c17 : P = 17
    · rw [if_pos c17, if_pos c17]
    · rw [if_neg c17, if_neg c17]
      by_cases ci : icP v6 P = true
      · rw [if_pos ci, if_pos ci]
        by_cases ce : icE v6 (mS v6 s d n) r n ≠ 0
        · rw [if_pos ce, if_pos ce]
        · rw [if_neg ce, if_neg ce]
          obtain ⟨a, b⟩ := icE_ok (v6 := v6) (S := mS v6 s d n) (f := r) (n := n) (by omega)
          rw [eqs_congr (x := winD v6 fun k => r (8 + k)) (x' := winD v6 fun k => r' (8 + k)) (y := d) (i := 0) (n := 16) (fun k _ hk => winD_same (n := n - 8) (f := fun k => r (8 + k)) (g := fun k => r' (8 + k)) (fun j hj => h _ (by omega)) b k (by omega))]
      · rw [if_neg ci, if_neg ci]
/-- What is told of it. -/
theorem pkT_same {v6 : Bool} {P : Int} {s d r r' : Nat → Int} {n : Nat} (e : prE v6 P s d r n = 0) (h : ∀ k, k < n → r' k = r k) : pkT v6 P s d r' n = pkT v6 P s d r n ∧ pkL P r' = pkL P r := by
  unfold pkT pkL
  unfold prE at e
  by_cases c6 : P = 6
  · rw [if_pos (.inl c6), if_pos (.inl c6), if_pos c6, if_pos c6]
    rw [if_pos c6] at e
    have ht : tcpE (psq v6 s d 6 n) r n = 0 := by
      by_cases q : tcpE (psq v6 s d 6 n) r n = 0
      · exact q
      · rw [if_pos q] at e; exact absurd e q
    obtain ⟨a, _⟩ := tcp_ok ht
    rw [w2_same 0 (h 0 (by omega)) (h 1 (by omega)), w2_same 2 (h 2 (by omega)) (h 3 (by omega)), h 13 (by omega)]
    exact ⟨rfl, rfl⟩
  · rw [if_neg c6] at e
    rw [if_neg c6, if_neg c6]
    by_cases c17 : P = 17
    · rw [if_pos (.inr c17), if_pos (.inr c17)]
      rw [if_pos c17] at e
      have a := udp_long e
      rw [w2_same 0 (h 0 (by omega)) (h 1 (by omega)), w2_same 2 (h 2 (by omega)) (h 3 (by omega))]
      exact ⟨rfl, rfl⟩
    · have c : ¬ (P = 6 ∨ P = 17) := fun q => by rcases q with q | q; exact c6 q; exact c17 q
      rw [if_neg c, if_neg c]
      exact ⟨wT_same (f := fun k => r (8 + k)) (g := fun k => r' (8 + k)) (n := n - 8) (fun k hk => h _ (by omega)), rfl⟩
/-- The same packet, with more behind it, or less. -/
theorem pk_same {f g : Nat → Int} (hf : Byt f) (hg : Byt g) {n n' : Nat} (h : pkE f n = 0) (hn : 14 + otI (pkV f) (pkG f) ≤ n') (hn' : n' ≤ 1600) (hs : ∀ k, k < 14 + otI (pkV f) (pkG f) → g k = f k) :
    pkE g n' = 0 ∧ pkV g = pkV f ∧ otI (pkV g) (pkG g) = otI (pkV f) (pkG f) ∧ otP (pkV g) (pkG g) = otP (pkV f) (pkG f) ∧
    pkT (pkV g) (otP (pkV g) (pkG g)) (otS (pkV g) (pkG g)) (otD (pkV g) (pkG g)) (otF (pkV g) (pkG g)) (otR (pkV g) (pkG g)) = pkT (pkV f) (otP (pkV f) (pkG f)) (otS (pkV f) (pkG f)) (otD (pkV f) (pkG f)) (otF (pkV f) (pkG f)) (otR (pkV f) (pkG f)) ∧
    pkL (otP (pkV g) (pkG g)) (otF (pkV g) (pkG g)) = pkL (otP (pkV f) (pkG f)) (otF (pkV f) (pkG f)) := by
  have hw : w2 g 12 = w2 f 12 := w2_same 12 (hs 12 (by omega)) (hs 13 (by omega))
  have hv : pkV g = pkV f := by unfold pkV; rw [hw]
  unfold pkE at h
  split at h
  · omega
  split at h
  · omega
  split at h
  · omega
  rename_i q1 q2 q3
  by_cases ho : otE (pkV f) (pkG f) (n - 14) ≠ 0
  · rw [if_pos ho] at h; exact absurd h ho
  rw [if_neg ho] at h
  have ho' : otE (pkV f) (pkG f) (n - 14) = 0 := by omega
  have hG : Byt (pkG g) := fun k => hg _
  obtain ⟨a1, a2, a3, a4, a5, a6, a7, a8⟩ := ot_same (f := pkG f) (g := pkG g) (n' := n' - 14) (fun k => hf _) hG ho' (by omega) (fun k hk => hs _ (by omega))
  obtain ⟨t1, t2⟩ := pkT_same (r' := otF (pkV f) (pkG g)) h a8
  rw [hv, a3, a4, a5, a6, a7]
  refine ⟨?_, rfl, rfl, rfl, t1, t2⟩
  unfold pkE
  rw [if_neg (by omega), if_neg (by omega), hw, if_neg q3, hv, if_neg (by rw [a1]; exact fun q => q rfl), a4, a5, a6, a7, prE_same a8]
  exact h
end Go.Proofs.Ytlchegibfopglaa
