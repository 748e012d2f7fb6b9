/- Stage 10: the landed slots: the functions that only read. -/
import Derived.Test.YthlnhkkjpjbmeaaVa
namespace Go.Proofs.Ythlnhkkjpjbmeaa
set_option maxRecDepth 100000
open Go.RowKit Go.Shelf
attribute [local go_sem] Oper.semAt_some
theorem phasL_c (w : World) (p : Nat) (B : Option Addr) (n c : Nat) (x1 : w.cell? ⟨p, 1, none⟩ = some (.slice B n c)) (i : Int) : Calls Try.prog 25 #[.pointer (some ⟨p, 0, none⟩), .int .i64 i] w (ret (.bool (decide (0 ≤ i) && decide (i < (n : Int)))) w) := by
  rcases Int.lt_or_le i 0 with h0 | h0
  · have e : (decide (0 ≤ i) && decide (i < (n : Int))) = false := by simp; omega
    rw [e]
    clear e
    go_enter Try.func25, Try.ntmps25
    go_wp2_with fail
    go_ret
    exact ⟨rfl, Below.refl _ _⟩
  · rcases Int.lt_or_le i (n : Int) with h1 | h1
    · have e : (decide (0 ≤ i) && decide (i < (n : Int))) = true := by simp; omega
      rw [e]
      clear e
      go_enter Try.func25, Try.ntmps25
      go_wp2_with fail
      go_ret
      exact ⟨rfl, Below.refl _ _⟩
    · have e : (decide (0 ≤ i) && decide (i < (n : Int))) = false := by simp; omega
      have h1' : ¬ i < (n : Int) := by omega
      rw [e]
      clear e
      go_enter Try.func25, Try.ntmps25
      go_wp2_with fail
      go_ret
      exact ⟨rfl, Below.refl _ _⟩
theorem phasL_0 (w : World) (i : Int) : Calls Try.prog 25 #[.pointer none, .int .i64 i] w (ret (.bool false) w) := by
  go_enter Try.func25, Try.ntmps25
  go_wp2_with fail
  go_ret
  exact ⟨rfl, Below.refl _ _⟩
theorem pown_c (w : World) (p : Nat) (A B : Option Addr) (m n cA cB : Nat) (x0 : w.cell? ⟨p, 0, none⟩ = some (.slice A (m + n) cA)) (x1 : w.cell? ⟨p, 1, none⟩ = some (.slice B n cB)) (hm : m ≤ 65536) (_hn : n ≤ 65536) (i : Nat) (hi : i ≤ 65536) :
    Calls Try.prog 23 #[.pointer (some ⟨p, 0, none⟩), .int .i64 (i : Int)] w (ret (.int .i64 ((m + i : Nat) : Int)) w) := by
  have z1 : IntKind.i64.wrap (((m + n : Nat) : Int) - (n : Int)) = (m : Int) := by rw [IntKind.wrap_i64]; omega
  have z2 : IntKind.i64.wrap ((m : Int) + (i : Int)) = ((m + i : Nat) : Int) := by rw [IntKind.wrap_i64]; omega
  have y0 : ∀ W : Stay w, W.w.cell? ⟨p, 0, none⟩ = some (.slice A (m + n) cA) := fun W => Stay.cell x0 W
  have y1 : ∀ W : Stay w, W.w.cell? ⟨p, 1, none⟩ = some (.slice B n cB) := fun W => Stay.cell x1 W
  clear x0 x1
  obtain ⟨N, hN⟩ : ∃ N, N = m + n := ⟨_, rfl⟩
  rw [← hN] at z1 y0
  clear hN
  go_enter Try.func23, Try.ntmps23
  go_upto_region 1 with fail
  refine wp_region_stay (by kernel_rfl) (by kernel_rfl) ?_
  repeat (go_big_quiet_step (fail))
  refine wpQuiet_nil ?_
  intro w' hw'
  obtain ⟨W, rfl⟩ := hw'
  go_wp2_with fail
  go_ret
  exact ⟨rfl, W.below⟩
theorem phasC_0 (w : World) (i : Int) : Calls Try.prog 26 #[.pointer none, .int .i64 i] w (ret (.bool false) w) := by
  go_enter Try.func26, Try.ntmps26
  go_wp2_with fail
  go_ret
  exact ⟨rfl, Below.refl _ _⟩
theorem phasC_c (w : World) (p m : Nat) (ho : ∀ W, Below w.heap.size w W → Calls Try.prog 23 #[.pointer (some ⟨p, 0, none⟩), .int .i64 0] W (ret (.int .i64 (m : Int)) W)) (i : Int) :
    Calls Try.prog 26 #[.pointer (some ⟨p, 0, none⟩), .int .i64 i] w (ret (.bool (decide (0 ≤ i) && decide (i < (m : Int)))) w) := by
  have HO := Lib.hid (ho w (Below.refl _ _))
  clear ho
  rcases Int.lt_or_le i 0 with h0 | h0
  · have e : (decide (0 ≤ i) && decide (i < (m : Int))) = false := by simp; omega
    rw [e]
    clear e
    go_enter Try.func26, Try.ntmps26
    go_wp2_with fail
    go_ret
    exact ⟨rfl, Below.refl _ _⟩
  · rcases Int.lt_or_le i (m : Int) with h1 | h1
    · have e : (decide (0 ≤ i) && decide (i < (m : Int))) = true := by simp; omega
      rw [e]
      clear e
      go_enter Try.func26, Try.ntmps26
      go_wp2_with (first
        | (go_at_call 23
           refine HO.out.mono ?_
           rintro e u ⟨rfl, hb⟩
           have HB := Lib.hid hb
           clear hb))
      go_ret
      exact ⟨rfl, HB.out⟩
    · have e : (decide (0 ≤ i) && decide (i < (m : Int))) = false := by simp; omega
      have h1' : ¬ i < (m : Int) := by omega
      rw [e]
      clear e
      go_enter Try.func26, Try.ntmps26
      go_wp2_with (first
        | (go_at_call 23
           refine HO.out.mono ?_
           rintro e u ⟨rfl, hb⟩
           have HB := Lib.hid hb
           clear hb))
      go_ret
      exact ⟨(by rw [show decide (i < (m : Int)) = false from by simpa using h1]; rfl), HB.out⟩
theorem pmade_c (w : World) (pa : Option Addr) (b : Bool) (hl : Calls Try.prog 25 #[.pointer pa, .int .i64 0] w (ret (.bool b) w)) : Calls Try.prog 24 #[.pointer pa] w (ret (.bool b) w) := by
  have HO := Lib.hid hl
  clear hl
  go_enter Try.func24, Try.ntmps24
  go_wp2_with (first
    | (go_at_call 25
       refine HO.out.mono ?_
       rintro e u ⟨rfl, hb⟩
       have HB := Lib.hid hb
       clear hb))
  go_ret
  exact ⟨rfl, HB.out⟩
theorem plen_no (w : World) (pa : Option Addr) (i : Int) (hl : Calls Try.prog 25 #[.pointer pa, .int .i64 i] w (ret (.bool false) w)) : Calls Try.prog 20 #[.pointer pa, .int .i64 i] w (ret (.int .i64 0) w) := by
  have HO := Lib.hid hl
  clear hl
  go_enter Try.func20, Try.ntmps20
  go_wp2_with (first
    | (go_at_call 25
       refine HO.out.mono ?_
       rintro e u ⟨rfl, hb⟩
       have HB := Lib.hid hb
       clear hb))
  go_ret
  exact ⟨rfl, HB.out⟩
theorem pwhere_no (w : World) (pa : Option Addr) (i : Int) (hl : Calls Try.prog 26 #[.pointer pa, .int .i64 i] w (ret (.bool false) w)) : Calls Try.prog 21 #[.pointer pa, .int .i64 i] w (ret (.tuple #[.int .i64 0, .bool false]) w) := by
  have HO := Lib.hid hl
  clear hl
  go_enter Try.func21, Try.ntmps21
  go_wp2_with (first
    | (go_at_call 26
       refine HO.out.mono ?_
       rintro e u ⟨rfl, hb⟩
       have HB := Lib.hid hb
       clear hb))
  go_ret2
  exact ⟨rfl, HB.out⟩
section
variable {w : World} {p A cA B cB m n : Nat} {V : Option Addr} {cV : Nat} {fl : Nat → Int} {pv nx sz : Nat → Nat} {wk : Option (Nat × Nat)} {F : Nat → Prop}
theorem SX.hasL (h : SX w p A cA B cB m n V cV fl pv nx sz wk F) (i : Int) : Calls Try.prog 25 #[.pointer (some ⟨p, 0, none⟩), .int .i64 i] w (ret (.bool (decide (0 ≤ i) && decide (i < (n : Int)))) w) := phasL_c w p _ n cB (blk_cell h.blk 1) i
theorem SX.own (h : SX w p A cA B cB m n V cV fl pv nx sz wk F) (hm : m ≤ 65536) (hn : n ≤ 4096) (i : Nat) (hi : i ≤ 4096) : Calls Try.prog 23 #[.pointer (some ⟨p, 0, none⟩), .int .i64 (i : Int)] w (ret (.int .i64 ((m + i : Nat) : Int)) w) :=
  pown_c w p _ _ m n cA cB (blk_cell h.blk 0) (blk_cell h.blk 1) hm (by omega) i (by omega)
theorem SX.hasC (h : SX w p A cA B cB m n V cV fl pv nx sz wk F) (hm : m ≤ 65536) (hn : n ≤ 4096) (i : Int) : Calls Try.prog 26 #[.pointer (some ⟨p, 0, none⟩), .int .i64 i] w (ret (.bool (decide (0 ≤ i) && decide (i < (m : Int)))) w) :=
  phasC_c w p m (fun _ hW => (h.step hW).own hm hn 0 (by omega)) i
theorem SX.made (h : SX w p A cA B cB m n V cV fl pv nx sz wk F) : Calls Try.prog 24 #[.pointer (some ⟨p, 0, none⟩)] w (ret (.bool true) w) :=
  pmade_c w _ true (by
    have := h.hasL 0
    have hp := h.pos
    have e : (decide ((0 : Int) ≤ 0) && decide ((0 : Int) < (n : Int))) = true := by simp; omega
    rwa [e] at this)
theorem SX.len (h : SX w p A cA B cB m n V cV fl pv nx sz wk F) (i : Nat) (hi : i < n) : Calls Try.prog 20 #[.pointer (some ⟨p, 0, none⟩), .int .i64 (i : Int)] w (ret (.int .i64 (sz i : Int)) w) := by
  have HL : Hid (Calls Try.prog 25 #[.pointer (some ⟨p, 0, none⟩), .int .i64 (i : Int)] w (ret (.bool true) w)) := Lib.hid (by
    have := h.hasL i
    have e : (decide ((0 : Int) ≤ (i : Int)) && decide ((i : Int) < (n : Int))) = true := by simp; omega
    rwa [e] at this)
  have HX := Lib.hid h
  have i1 : (i : Int) < (n : Int) := by omega
  have i0 : (0 : Int) ≤ (i : Int) := by omega
  have cB9 := h.cB9
  clear h
  go_enter Try.func20, Try.ntmps20
  go_wp2_with (first
    | (go_at_call 25
       refine HL.out.mono ?_
       rintro e u ⟨rfl, hb⟩
       have HB := Lib.hid hb
       have HX2 := Lib.hid (HX.out.step hb)
       have x1 : u.cell? ⟨p, 1, none⟩ = some (.slice (some ⟨B, 0, none⟩) n cB) := blk_cell HX2.out.blk 1
       have xs : u.cell? ⟨B, i, none⟩ = some (.int .i64 (sz i : Int)) := HX2.out.s0 hi
       clear hb))
  go_ret
  exact ⟨rfl, HB.out⟩
theorem SX.where_ (h : SX w p A cA B cB m n V cV fl pv nx sz wk F) (hm : m ≤ 65536) (hn : n ≤ 4096) (i : Nat) (hi : i < m) : Calls Try.prog 21 #[.pointer (some ⟨p, 0, none⟩), .int .i64 (i : Int)] w (ret (.tuple (if fl i = -1 then #[.int .i64 0, .bool false] else #[.int .i64 (fl i), .bool true])) w) := by
  have HL : Hid (Calls Try.prog 26 #[.pointer (some ⟨p, 0, none⟩), .int .i64 (i : Int)] w (ret (.bool true) w)) := Lib.hid (by
    have := h.hasC hm hn i
    have e : (decide ((0 : Int) ≤ (i : Int)) && decide ((i : Int) < (m : Int))) = true := by simp; omega
    rwa [e] at this)
  have HX := Lib.hid h
  have i0 : (0 : Int) ≤ (i : Int) := by omega
  have cA9 := h.cA9
  have i1 : (i : Int) < ((m + n : Nat) : Int) := by omega
  have hil : i < m + n := by omega
  clear h
  obtain ⟨v, hv⟩ : ∃ v, v = fl i := ⟨_, rfl⟩
  rw [← hv]
  obtain ⟨N, hN⟩ : ∃ N, N = m + n := ⟨_, rfl⟩
  rw [← hN] at i1 cA9
  have HN := Lib.hid hN
  have HV := Lib.hid hv
  clear hN hv
  by_cases h1 : v = -1
  · subst h1
    rw [if_pos rfl]
    go_enter Try.func21, Try.ntmps21
    go_wp2_with (first
      | (go_at_call 26
         refine HL.out.mono ?_
         rintro e u ⟨rfl, hb⟩
         have HB := Lib.hid hb
         have HX2 := Lib.hid (HX.out.step hb)
         have x0 : u.cell? ⟨p, 0, none⟩ = some (.slice (some ⟨A, 0, none⟩) N cA) := by rw [HN.out]; exact blk_cell HX2.out.blk 0
         have xs : u.cell? ⟨A, i * 3, none⟩ = some (.int .i64 (-1)) := by rw [HV.out]; exact HX2.out.l0 hil
         clear hb))
    go_ret2
    exact ⟨rfl, HB.out⟩
  · have h1' : (v == -1) = false := by simpa using h1
    rw [if_neg h1]
    go_enter Try.func21, Try.ntmps21
    go_wp2_with (first
      | (go_at_call 26
         refine HL.out.mono ?_
         rintro e u ⟨rfl, hb⟩
         have HB := Lib.hid hb
         have HX2 := Lib.hid (HX.out.step hb)
         have x0 : u.cell? ⟨p, 0, none⟩ = some (.slice (some ⟨A, 0, none⟩) N cA) := by rw [HN.out]; exact blk_cell HX2.out.blk 0
         have xs : u.cell? ⟨A, i * 3, none⟩ = some (.int .i64 v) := by rw [HV.out]; exact HX2.out.l0 hil
         clear hb))
    go_ret2
    exact ⟨rfl, HB.out⟩
end
end Go.Proofs.Ythlnhkkjpjbmeaa
