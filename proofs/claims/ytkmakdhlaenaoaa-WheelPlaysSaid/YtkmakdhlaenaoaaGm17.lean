import Derived.Test.YtkmakdhlaenaoaaGm16
/- Stage 10: the landed slots: the functions that only read. -/
namespace Go.Proofs.Ytkmakdhlaenaoaa
set_option maxRecDepth 100000
open Go.RowKit Go.Shelf
attribute [local go_sem] Oper.semAt_some
theorem phasL_c (w : World) (p : Nat) (B : Option Addr) (n c : Nat) (x1 : w.cell? ⟨p, 1, none⟩ = some (.slice B n c)) (i : Int) : Calls Try.prog 78 #[.pointer (some ⟨p, 0, none⟩), .int .i64 i] w (ret (.bool (decide (0 ≤ i) && decide (i < (n : Int)))) w) := by
  rcases Int.lt_or_le i 0 with h0 | h0
  · have e : (decide (0 ≤ i) && decide (i < (n : Int))) = false := by simp; omega
    rw [e]
    clear e
    go_enter Try.func78, Try.ntmps78
    go_wp2_with fail
    go_ret
    exact ⟨rfl, Below.refl _ _⟩
  · rcases Int.lt_or_le i (n : Int) with h1 | h1
    · have e : (decide (0 ≤ i) && decide (i < (n : Int))) = true := by simp; omega
      rw [e]
      clear e
      go_enter Try.func78, Try.ntmps78
      go_wp2_with fail
      go_ret
      exact ⟨rfl, Below.refl _ _⟩
    · have e : (decide (0 ≤ i) && decide (i < (n : Int))) = false := by simp; omega
      have h1' : ¬ i < (n : Int) := by omega
      rw [e]
      clear e
      go_enter Try.func78, Try.ntmps78
      go_wp2_with fail
      go_ret
      exact ⟨rfl, Below.refl _ _⟩
theorem phasL_0 (w : World) (i : Int) : Calls Try.prog 78 #[.pointer none, .int .i64 i] w (ret (.bool false) w) := by
  go_enter Try.func78, Try.ntmps78
  go_wp2_with fail
  go_ret
  exact ⟨rfl, Below.refl _ _⟩
theorem pown_c (w : World) (p : Nat) (A B : Option Addr) (m n cA cB : Nat) (x0 : w.cell? ⟨p, 0, none⟩ = some (.slice A (m + n) cA)) (x1 : w.cell? ⟨p, 1, none⟩ = some (.slice B n cB)) (hm : m ≤ 65536) (_hn : n ≤ 65536) (i : Nat) (hi : i ≤ 65536) :
    Calls Try.prog 43 #[.pointer (some ⟨p, 0, none⟩), .int .i64 (i : Int)] w (ret (.int .i64 ((m + i : Nat) : Int)) w) := by
  have z1 : IntKind.i64.wrap (((m + n : Nat) : Int) - (n : Int)) = (m : Int) := by rw [IntKind.wrap_i64]; omega
  have z2 : IntKind.i64.wrap ((m : Int) + (i : Int)) = ((m + i : Nat) : Int) := by rw [IntKind.wrap_i64]; omega
  have y0 : ∀ W : Stay w, W.w.cell? ⟨p, 0, none⟩ = some (.slice A (m + n) cA) := fun W => Stay.cell x0 W
  have y1 : ∀ W : Stay w, W.w.cell? ⟨p, 1, none⟩ = some (.slice B n cB) := fun W => Stay.cell x1 W
  clear x0 x1
  obtain ⟨N, hN⟩ : ∃ N, N = m + n := ⟨_, rfl⟩
  rw [← hN] at z1 y0
  clear hN
  go_enter Try.func43, Try.ntmps43
  go_upto_region 1 with fail
  refine wp_region_stay (by kernel_rfl) (by kernel_rfl) ?_
  repeat (go_big_quiet_step (fail))
  refine wpQuiet_nil ?_
  intro w' hw'
  obtain ⟨W, rfl⟩ := hw'
  go_wp2_with fail
  go_ret
  exact ⟨rfl, W.below⟩
theorem phasC_0 (w : World) (i : Int) : Calls Try.prog 64 #[.pointer none, .int .i64 i] w (ret (.bool false) w) := by
  go_enter Try.func64, Try.ntmps64
  go_wp2_with fail
  go_ret
  exact ⟨rfl, Below.refl _ _⟩
theorem phasC_c (w : World) (p m : Nat) (ho : ∀ W, Below w.heap.size w W → Calls Try.prog 43 #[.pointer (some ⟨p, 0, none⟩), .int .i64 0] W (ret (.int .i64 (m : Int)) W)) (i : Int) :
    Calls Try.prog 64 #[.pointer (some ⟨p, 0, none⟩), .int .i64 i] w (ret (.bool (decide (0 ≤ i) && decide (i < (m : Int)))) w) := by
  have HO := Lib.hid (ho w (Below.refl _ _))
  clear ho
  rcases Int.lt_or_le i 0 with h0 | h0
  · have e : (decide (0 ≤ i) && decide (i < (m : Int))) = false := by simp; omega
    rw [e]
    clear e
    go_enter Try.func64, Try.ntmps64
    go_wp2_with fail
    go_ret
    exact ⟨rfl, Below.refl _ _⟩
  · rcases Int.lt_or_le i (m : Int) with h1 | h1
    · have e : (decide (0 ≤ i) && decide (i < (m : Int))) = true := by simp; omega
      rw [e]
      clear e
      go_enter Try.func64, Try.ntmps64
      go_wp2_with (first
        | (go_at_call 43
           refine HO.out.mono ?_
           rintro e u ⟨rfl, hb⟩
           have HB := Lib.hid hb
           clear hb))
      go_ret
      exact ⟨rfl, HB.out⟩
    · have e : (decide (0 ≤ i) && decide (i < (m : Int))) = false := by simp; omega
      have h1' : ¬ i < (m : Int) := by omega
      rw [e]
      clear e
      go_enter Try.func64, Try.ntmps64
      go_wp2_with (first
        | (go_at_call 43
           refine HO.out.mono ?_
           rintro e u ⟨rfl, hb⟩
           have HB := Lib.hid hb
           clear hb))
      go_ret
      exact ⟨(by rw [show decide (i < (m : Int)) = false from by simpa using h1]; rfl), HB.out⟩
theorem pmade_c (w : World) (pa : Option Addr) (b : Bool) (hl : Calls Try.prog 78 #[.pointer pa, .int .i64 0] w (ret (.bool b) w)) : Calls Try.prog 63 #[.pointer pa] w (ret (.bool b) w) := by
  have HO := Lib.hid hl
  clear hl
  go_enter Try.func63, Try.ntmps63
  go_wp2_with (first
    | (go_at_call 78
       refine HO.out.mono ?_
       rintro e u ⟨rfl, hb⟩
       have HB := Lib.hid hb
       clear hb))
  go_ret
  exact ⟨rfl, HB.out⟩
theorem plen_no (w : World) (pa : Option Addr) (i : Int) (hl : Calls Try.prog 78 #[.pointer pa, .int .i64 i] w (ret (.bool false) w)) : Calls Try.prog 73 #[.pointer pa, .int .i64 i] w (ret (.int .i64 0) w) := by
  have HO := Lib.hid hl
  clear hl
  go_enter Try.func73, Try.ntmps73
  go_wp2_with (first
    | (go_at_call 78
       refine HO.out.mono ?_
       rintro e u ⟨rfl, hb⟩
       have HB := Lib.hid hb
       clear hb))
  go_ret
  exact ⟨rfl, HB.out⟩
section
variable {w : World} {p A cA B cB m n : Nat} {V : Option Addr} {cV : Nat} {fl : Nat → Int} {pv nx sz : Nat → Nat} {wk : Option (Nat × Nat)} {F : Nat → Prop}
theorem SX.hasL (h : SX w p A cA B cB m n V cV fl pv nx sz wk F) (i : Int) : Calls Try.prog 78 #[.pointer (some ⟨p, 0, none⟩), .int .i64 i] w (ret (.bool (decide (0 ≤ i) && decide (i < (n : Int)))) w) := phasL_c w p _ n cB (blk_cell h.blk 1) i
theorem SX.own (h : SX w p A cA B cB m n V cV fl pv nx sz wk F) (hm : m ≤ 65536) (hn : n ≤ 4096) (i : Nat) (hi : i ≤ 4096) : Calls Try.prog 43 #[.pointer (some ⟨p, 0, none⟩), .int .i64 (i : Int)] w (ret (.int .i64 ((m + i : Nat) : Int)) w) :=
  pown_c w p _ _ m n cA cB (blk_cell h.blk 0) (blk_cell h.blk 1) hm (by omega) i (by omega)
theorem SX.hasC (h : SX w p A cA B cB m n V cV fl pv nx sz wk F) (hm : m ≤ 65536) (hn : n ≤ 4096) (i : Int) : Calls Try.prog 64 #[.pointer (some ⟨p, 0, none⟩), .int .i64 i] w (ret (.bool (decide (0 ≤ i) && decide (i < (m : Int)))) w) :=
  phasC_c w p m (fun _ hW => (h.step hW).own hm hn 0 (by omega)) i
theorem SX.made (h : SX w p A cA B cB m n V cV fl pv nx sz wk F) : Calls Try.prog 63 #[.pointer (some ⟨p, 0, none⟩)] w (ret (.bool true) w) :=
  pmade_c w _ true (by
    have := h.hasL 0
    have hp := h.pos
    have e : (decide ((0 : Int) ≤ 0) && decide ((0 : Int) < (n : Int))) = true := by simp; omega
    rwa [e] at this)
theorem SX.len (h : SX w p A cA B cB m n V cV fl pv nx sz wk F) (i : Nat) (hi : i < n) : Calls Try.prog 73 #[.pointer (some ⟨p, 0, none⟩), .int .i64 (i : Int)] w (ret (.int .i64 (sz i : Int)) w) := by
  have HL : Hid (Calls Try.prog 78 #[.pointer (some ⟨p, 0, none⟩), .int .i64 (i : Int)] w (ret (.bool true) w)) := Lib.hid (by
    have := h.hasL i
    have e : (decide ((0 : Int) ≤ (i : Int)) && decide ((i : Int) < (n : Int))) = true := by simp; omega
    rwa [e] at this)
  have HX := Lib.hid h
  have i1 : (i : Int) < (n : Int) := by omega
  have i0 : (0 : Int) ≤ (i : Int) := by omega
  have cB9 := h.cB9
  clear h
  go_enter Try.func73, Try.ntmps73
  go_wp2_with (first
    | (go_at_call 78
       refine HL.out.mono ?_
       rintro e u ⟨rfl, hb⟩
       have HB := Lib.hid hb
       have HX2 := Lib.hid (HX.out.step hb)
       have x1 : u.cell? ⟨p, 1, none⟩ = some (.slice (some ⟨B, 0, none⟩) n cB) := blk_cell HX2.out.blk 1
       have xs : u.cell? ⟨B, i, none⟩ = some (.int .i64 (sz i : Int)) := HX2.out.s0 hi
       clear hb))
  go_ret
  exact ⟨rfl, HB.out⟩
end
end Go.Proofs.Ytkmakdhlaenaoaa
/- Stage 10: the landed Push. -/
namespace Go.Proofs.Ytkmakdhlaenaoaa
set_option maxRecDepth 100000
open Go.RowKit Go.Shelf
section
variable {w : World} {p A cA B cB m n : Nat} {V : Option Addr} {cV : Nat} {fl : Nat → Int} {pv nx sz : Nat → Nat} {wk : Option (Nat × Nat)} {F : Nat → Prop}
/-- Push where something is amiss. -/
theorem ppush_no (pa : Option Addr) (l c : Int) (a b d : Bool) (v : Int) (hv : v = if a = false then 1 else 2) (hno : a = false ∨ b = false ∨ d = false)
    (hA : ∀ W, Below w.heap.size w W → Calls Try.prog 63 #[.pointer pa] W (ret (.bool a) W))
    (hB : ∀ W, Below w.heap.size w W → Calls Try.prog 78 #[.pointer pa, .int .i64 l] W (ret (.bool b) W))
    (hD : ∀ W, Below w.heap.size w W → Calls Try.prog 64 #[.pointer pa, .int .i64 c] W (ret (.bool d) W)) :
    Calls Try.prog 72 #[.pointer pa, .int .i64 l, .int .i64 c] w (ret (.int .i64 v) w) := by
  have HA := Lib.hid hA
  have HB := Lib.hid hB
  have HD := Lib.hid hD
  have B0 : Hid (Below w.heap.size w w) := Lib.hid (Below.refl _ _)
  clear hA hB hD
  cases a with
  | false =>
    rw [if_pos rfl] at hv
    subst hv
    clear hno
    go_enter Try.func72, Try.ntmps72
    go_wp2_with (first
      | (go_at_call 63
         refine (HA.out _ B0.out).mono ?_
         rintro e u1 ⟨rfl, hb⟩
         have B1 := Lib.hid hb
         clear hb))
    go_ret
    exact ⟨rfl, B1.out⟩
  | true =>
    rw [if_neg (by simp)] at hv
    subst hv
    cases b with
    | false =>
      clear hno
      go_enter Try.func72, Try.ntmps72
      go_wp2_with (first
        | (go_at_call 63
           refine (HA.out _ B0.out).mono ?_
           rintro e u1 ⟨rfl, hb⟩
           have B1 := Lib.hid hb
           clear hb)
        | (go_at_call 78
           refine (HB.out _ B1.out).mono ?_
           rintro e u2 ⟨rfl, hb⟩
           have B2 := Lib.hid (B1.out.trans (hb.mono B1.out.size))
           clear hb))
      go_ret
      exact ⟨rfl, B2.out⟩
    | true =>
      obtain rfl : d = false := by simpa using hno
      clear hno
      go_enter Try.func72, Try.ntmps72
      go_wp2_with (first
        | (go_at_call 63
           refine (HA.out _ B0.out).mono ?_
           rintro e u1 ⟨rfl, hb⟩
           have B1 := Lib.hid hb
           clear hb)
        | (go_at_call 78
           refine (HB.out _ B1.out).mono ?_
           rintro e u2 ⟨rfl, hb⟩
           have B2 := Lib.hid (B1.out.trans (hb.mono B1.out.size))
           clear hb)
        | (go_at_call 64
           refine (HD.out _ B2.out).mono ?_
           rintro e u3 ⟨rfl, hb⟩
           have B3 := Lib.hid (B2.out.trans (hb.mono B2.out.size))
           clear hb))
      go_ret
      exact ⟨rfl, B3.out⟩
theorem ppush_twice (h : SX w p A cA B cB m n V cV fl pv nx sz wk F) (hm : m ≤ 65536) (hn : n ≤ 4096) (i c : Nat) (hi : i < n) (hc : c < m) (hf : fl c ≠ -1) : Calls Try.prog 72 #[.pointer (some ⟨p, 0, none⟩), .int .i64 (i : Int), .int .i64 (c : Int)] w (ret (.int .i64 8) w) := by
  have hf' : (fl c != -1) = true := by simpa using hf
  have HX := Lib.hid h
  have i0 : (0 : Int) ≤ (i : Int) := by omega
  have j0 : (0 : Int) ≤ (c : Int) := by omega
  have HA : Hid (∀ W, Below w.heap.size w W → Calls Try.prog 63 #[.pointer (some ⟨p, 0, none⟩)] W (ret (.bool true) W)) := Lib.hid fun W hW => (h.step hW).made
  have HB : Hid (∀ W, Below w.heap.size w W → Calls Try.prog 78 #[.pointer (some ⟨p, 0, none⟩), .int .i64 (i : Int)] W (ret (.bool true) W)) := Lib.hid fun W hW => by
    have := (h.step hW).hasL i
    have e : (decide ((0 : Int) ≤ (i : Int)) && decide ((i : Int) < (n : Int))) = true := by simp; omega
    rwa [e] at this
  have HD : Hid (∀ W, Below w.heap.size w W → Calls Try.prog 64 #[.pointer (some ⟨p, 0, none⟩), .int .i64 (c : Int)] W (ret (.bool true) W)) := Lib.hid fun W hW => by
    have := (h.step hW).hasC hm hn c
    have e : (decide ((0 : Int) ≤ (c : Int)) && decide ((c : Int) < (m : Int))) = true := by simp; omega
    rwa [e] at this
  have HW : Hid (∀ W, Below w.heap.size w W → Calls Try.prog 43 #[.pointer (some ⟨p, 0, none⟩), .int .i64 (i : Int)] W (ret (.int .i64 ((m + i : Nat) : Int)) W)) := Lib.hid fun W hW => (h.step hW).own hm hn i (by omega)
  have B0 : Hid (Below w.heap.size w w) := Lib.hid (Below.refl _ _)
  have cA9 := h.cA9
  have cB9 := h.cB9
  have hcl : c < m + n := by omega
  have j1 : (c : Int) < ((m + n : Nat) : Int) := by omega
  clear h
  obtain ⟨N, hN⟩ : ∃ N, N = m + n := ⟨_, rfl⟩
  rw [← hN] at j1 cA9
  have HN := Lib.hid hN
  clear hN
  go_enter Try.func72, Try.ntmps72
  go_wp2_with (first
    | (go_at_call 63
       refine (HA.out _ B0.out).mono ?_
       rintro e u1 ⟨rfl, hb⟩
       have B1 := Lib.hid hb
       clear hb)
    | (go_at_call 78
       refine (HB.out _ B1.out).mono ?_
       rintro e u2 ⟨rfl, hb⟩
       have B2 := Lib.hid (B1.out.trans (hb.mono B1.out.size))
       clear hb)
    | (go_at_call 64
       refine (HD.out _ B2.out).mono ?_
       rintro e u3 ⟨rfl, hb⟩
       have B3 := Lib.hid (B2.out.trans (hb.mono B2.out.size))
       have x0 : u3.cell? ⟨p, 0, none⟩ = some (.slice (some ⟨A, 0, none⟩) N cA) := by rw [HN.out]; exact blk_cell (HX.out.step B3.out).blk 0
       have xs : u3.cell? ⟨A, c * 3, none⟩ = some (.int .i64 (fl c)) := (HX.out.step B3.out).l0 hcl
       clear hb))
  go_ret
  exact ⟨rfl, B3.out⟩
set_option maxHeartbeats 1000000 in
theorem ppush_ok (h : SX w p A cA B cB m n V cV fl pv nx sz wk F) (hm : m ≤ 65536) (hn : n ≤ 4096) (i c la : Nat) (hi : i < n) (hc : c < m) (hf : fl c = -1) (hla : la = pv (m + i)) (hll : la < m + n) (_hne : la ≠ c) (hsz : sz i ≤ 65536) :
    Calls Try.prog 72 #[.pointer (some ⟨p, 0, none⟩), .int .i64 (i : Int), .int .i64 (c : Int)] w fun e w' => e = .returned (.int .i64 0) ∧
      SX w' p A cA B cB m n V cV (updI fl c (i : Int)) (updN (updN pv c la) (m + i) c) (updN (updN nx c (m + i)) la c) (updN sz i (sz i + 1)) wk F ∧ Kept (fun k => k = A ∨ k = B) w w' := by
  have hf' : (fl c != -1) = false := by simp [hf]
  have HX := Lib.hid h
  have i0 : (0 : Int) ≤ (i : Int) := by omega
  have j0 : (0 : Int) ≤ (c : Int) := by omega
  have HA : Hid (∀ W, Below w.heap.size w W → Calls Try.prog 63 #[.pointer (some ⟨p, 0, none⟩)] W (ret (.bool true) W)) := Lib.hid fun W hW => (h.step hW).made
  have HB : Hid (∀ W, Below w.heap.size w W → Calls Try.prog 78 #[.pointer (some ⟨p, 0, none⟩), .int .i64 (i : Int)] W (ret (.bool true) W)) := Lib.hid fun W hW => by
    have := (h.step hW).hasL i
    have e : (decide ((0 : Int) ≤ (i : Int)) && decide ((i : Int) < (n : Int))) = true := by simp; omega
    rwa [e] at this
  have HD : Hid (∀ W, Below w.heap.size w W → Calls Try.prog 64 #[.pointer (some ⟨p, 0, none⟩), .int .i64 (c : Int)] W (ret (.bool true) W)) := Lib.hid fun W hW => by
    have := (h.step hW).hasC hm hn c
    have e : (decide ((0 : Int) ≤ (c : Int)) && decide ((c : Int) < (m : Int))) = true := by simp; omega
    rwa [e] at this
  have HW : Hid (∀ W, Below w.heap.size w W → Calls Try.prog 43 #[.pointer (some ⟨p, 0, none⟩), .int .i64 (i : Int)] W (ret (.int .i64 ((m + i : Nat) : Int)) W)) := Lib.hid fun W hW => (h.step hW).own hm hn i (by omega)
  have B0 : Hid (Below w.heap.size w w) := Lib.hid (Below.refl _ _)
  have cA9 := h.cA9
  have cB9 := h.cB9
  have hcl : c < m + n := by omega
  have j1 : (c : Int) < ((m + n : Nat) : Int) := by omega
  clear h
  obtain ⟨N, hN⟩ : ∃ N, N = m + n := ⟨_, rfl⟩
  have HN := Lib.hid hN
  obtain ⟨o, ho⟩ : ∃ o, o = m + i := ⟨_, rfl⟩
  have hol : o < m + n := by omega
  have o0 : (0 : Int) ≤ (o : Int) := by omega
  have o1 : (o : Int) < ((m + n : Nat) : Int) := by omega
  have l0 : (0 : Int) ≤ (la : Int) := by omega
  have l1 : (la : Int) < ((m + n : Nat) : Int) := by omega
  have i1 : (i : Int) < (n : Int) := by omega
  have zw : IntKind.i64.wrap ((sz i : Int) + 1) = ((sz i + 1 : Nat) : Int) := by rw [IntKind.wrap_i64]; omega
  rw [← ho] at hla HW ⊢
  have HLA := Lib.hid hla
  rw [← hN] at j1 o1 l1 cA9
  clear hN ho hla
  have hbl : ∀ W, (Instr.build 101 #[(0, .int .i64 (i : Int)), (1, .int .i64 (la : Int)), (2, .int .i64 (o : Int))]).run Try.prog W = .ok (.agg #[.int .i64 (i : Int), .int .i64 (la : Int), .int .i64 (o : Int)]) W := fun W => by kernel_rfl
  go_enter Try.func72, Try.ntmps72
  go_upto_region 9 with (first
    | (go_at_call 63
       refine (HA.out _ B0.out).mono ?_
       rintro e u1 ⟨rfl, hb⟩
       have B1 := Lib.hid hb
       clear hb)
    | (go_at_call 78
       refine (HB.out _ B1.out).mono ?_
       rintro e u2 ⟨rfl, hb⟩
       have B2 := Lib.hid (B1.out.trans (hb.mono B1.out.size))
       clear hb)
    | (go_at_call 64
       refine (HD.out _ B2.out).mono ?_
       rintro e u3 ⟨rfl, hb⟩
       have B3 := Lib.hid (B2.out.trans (hb.mono B2.out.size))
       have x0 : u3.cell? ⟨p, 0, none⟩ = some (.slice (some ⟨A, 0, none⟩) N cA) := by rw [HN.out]; exact blk_cell (HX.out.step B3.out).blk 0
       have xs : u3.cell? ⟨A, c * 3, none⟩ = some (.int .i64 (fl c)) := (HX.out.step B3.out).l0 hcl
       clear hb)
    | (go_at_call 43
       refine (HW.out _ B3.out).mono ?_
       rintro e u4 ⟨rfl, hb⟩
       have B4 := Lib.hid (B3.out.trans (hb.mono B3.out.size))
       clear x0 xs
       have HX4 := Lib.hid (HX.out.step B4.out)
       have x0 : u4.cell? ⟨p, 0, none⟩ = some (.slice (some ⟨A, 0, none⟩) N cA) := by rw [HN.out]; exact blk_cell HX4.out.blk 0
       have xs : u4.cell? ⟨A, o * 3 + 1, none⟩ = some (.int .i64 (la : Int)) := by rw [HLA.out]; exact HX4.out.l1 hol
       clear hb))
  clear xs
  have K4 : Hid (Kept (fun k => k = A ∨ k = B) w u4) := Lib.hid (Kept.of_below B4.out _)
  go_upto_region 10 with (first
    | (refine wpList_store_mid rfl 101 (.tmp 51) (.tmp 50) rfl A (c * 3) #[.int .i64 (i : Int), .int .i64 (la : Int), .int .i64 (o : Int)] rfl rfl (HX4.out.there hcl) (by kernel_rfl) (by simp [Value.oneCell']) ?_))
  have HX5 := Lib.hid (HX4.out.put c (i : Int) la o)
  have K5 : Hid (Kept (fun k => k = A ∨ k = B) w (u4.setCells A (c * 3) [.int .i64 (i : Int), .int .i64 (la : Int), .int .i64 (o : Int)])) := Lib.hid (K4.out.setCells (.inl (.inl rfl)) _ _)
  clear HX4 K4 x0
  try simp only [Act.put]
  generalize u4.setCells A (c * 3) [.int .i64 (i : Int), .int .i64 (la : Int), .int .i64 (o : Int)] = u5 at *
  have x0 : u5.cell? ⟨p, 0, none⟩ = some (.slice (some ⟨A, 0, none⟩) N cA) := by rw [HN.out]; exact blk_cell HX5.out.blk 0
  have xe : u5.cell? ⟨A, la * 3 + 2, none⟩ = some (.int .i64 (updN nx c o la : Nat)) := HX5.out.l2 hll
  have xf : u5.frozen? ⟨A, la * 3 + 2, none⟩ = false := HX5.out.fzA _
  go_upto_region 11 with fail
  have HX6 := Lib.hid (HX5.out.setN la c)
  have K6 : Hid (Kept (fun k => k = A ∨ k = B) w (u5.setCell ⟨A, la * 3 + 2, none⟩ (.int .i64 (c : Int)))) := Lib.hid (K5.out.setCell (p := ⟨A, la * 3 + 2, none⟩) (.inl (.inl rfl)) _)
  clear HX5 K5 x0 xe xf
  generalize u5.setCell ⟨A, la * 3 + 2, none⟩ (.int .i64 (c : Int)) = u6 at *
  have x0 : u6.cell? ⟨p, 0, none⟩ = some (.slice (some ⟨A, 0, none⟩) N cA) := by rw [HN.out]; exact blk_cell HX6.out.blk 0
  have xe : u6.cell? ⟨A, o * 3 + 1, none⟩ = some (.int .i64 (updN pv c la o : Nat)) := HX6.out.l1 hol
  have xf : u6.frozen? ⟨A, o * 3 + 1, none⟩ = false := HX6.out.fzA _
  go_upto_region 12 with fail
  have HX7 := Lib.hid (HX6.out.setP o c)
  have K7 : Hid (Kept (fun k => k = A ∨ k = B) w (u6.setCell ⟨A, o * 3 + 1, none⟩ (.int .i64 (c : Int)))) := Lib.hid (K6.out.setCell (p := ⟨A, o * 3 + 1, none⟩) (.inl (.inl rfl)) _)
  clear HX6 K6 x0 xe xf
  generalize u6.setCell ⟨A, o * 3 + 1, none⟩ (.int .i64 (c : Int)) = u7 at *
  have x1 : u7.cell? ⟨p, 1, none⟩ = some (.slice (some ⟨B, 0, none⟩) n cB) := blk_cell HX7.out.blk 1
  have xe : u7.cell? ⟨B, i, none⟩ = some (.int .i64 (sz i : Int)) := HX7.out.s0 hi
  have xf : u7.frozen? ⟨B, i, none⟩ = false := HX7.out.fzB _
  go_wp2_with fail
  go_ret
  exact ⟨rfl, HX7.out.setS i (sz i + 1), K7.out.setCell (p := ⟨B, i, none⟩) (.inl (.inr rfl)) _⟩
end
end Go.Proofs.Ytkmakdhlaenaoaa
