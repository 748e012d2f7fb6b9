/- Stage 10: the landed Remove, Pop. -/
import Derived.Test.YthlnhkkjpjbmeaaVd
namespace Go.Proofs.Ythlnhkkjpjbmeaa
set_option maxRecDepth 100000
open Go.RowKit Go.Shelf
section
variable {w : World} {p A cA B cB m n : Nat} {V : Option Addr} {cV : Nat} {fl : Nat → Int} {pv nx sz : Nat → Nat} {wk : Option (Nat × Nat)} {F : Nat → Prop}
theorem premove_no (pa : Option Addr) (c : Int) (a d : Bool) (v : Int) (hv : v = if a = false then 1 else 2) (hno : a = false ∨ d = false)
    (hA : ∀ W, Below w.heap.size w W → Calls Try.prog 24 #[.pointer pa] W (ret (.bool a) W))
    (hD : ∀ W, Below w.heap.size w W → Calls Try.prog 26 #[.pointer pa, .int .i64 c] W (ret (.bool d) W)) :
    Calls Try.prog 13 #[.pointer pa, .int .i64 c] w (ret (.int .i64 v) w) := by
  have HA := Lib.hid hA
  have HD := Lib.hid hD
  have B0 : Hid (Below w.heap.size w w) := Lib.hid (Below.refl _ _)
  clear hA hD
  cases a with
  | false =>
    rw [if_pos rfl] at hv
    subst hv
    clear hno
    go_enter Try.func13, Try.ntmps13
    go_wp2_with (first
      | (go_at_call 24
         refine (HA.out _ B0.out).mono ?_
         rintro e u1 ⟨rfl, hb⟩
         have B1 := Lib.hid hb
         clear hb))
    go_ret
    exact ⟨rfl, B1.out⟩
  | true =>
    rw [if_neg (by simp)] at hv
    subst hv
    obtain rfl : d = false := by simpa using hno
    clear hno
    go_enter Try.func13, Try.ntmps13
    go_wp2_with (first
      | (go_at_call 24
         refine (HA.out _ B0.out).mono ?_
         rintro e u1 ⟨rfl, hb⟩
         have B1 := Lib.hid hb
         clear hb)
      | (go_at_call 26
         refine (HD.out _ B1.out).mono ?_
         rintro e u3 ⟨rfl, hb⟩
         have B3 := Lib.hid (B1.out.trans (hb.mono B1.out.size))
         clear hb))
    go_ret
    exact ⟨rfl, B3.out⟩
theorem premove_none (h : SX w p A cA B cB m n V cV fl pv nx sz wk F) (hm : m ≤ 65536) (hn : n ≤ 4096) (c : Nat) (hc : c < m) (hf : fl c = -1) : Calls Try.prog 13 #[.pointer (some ⟨p, 0, none⟩), .int .i64 (c : Int)] w (ret (.int .i64 7) w) := by
  have hf' : (fl c == -1) = true := by simpa using hf
  have HX := Lib.hid h
  have j0 : (0 : Int) ≤ (c : Int) := by omega
  have HA : Hid (∀ W, Below w.heap.size w W → Calls Try.prog 24 #[.pointer (some ⟨p, 0, none⟩)] W (ret (.bool true) W)) := Lib.hid fun W hW => (h.step hW).made
  have HD : Hid (∀ W, Below w.heap.size w W → Calls Try.prog 26 #[.pointer (some ⟨p, 0, none⟩), .int .i64 (c : Int)] W (ret (.bool true) W)) := Lib.hid fun W hW => by
    have := (h.step hW).hasC hm hn c
    have e : (decide ((0 : Int) ≤ (c : Int)) && decide ((c : Int) < (m : Int))) = true := by simp; omega
    rwa [e] at this
  have B0 : Hid (Below w.heap.size w w) := Lib.hid (Below.refl _ _)
  have cA9 := h.cA9
  have hcl : c < m + n := by omega
  have j1 : (c : Int) < ((m + n : Nat) : Int) := by omega
  clear h
  obtain ⟨N, hN⟩ : ∃ N, N = m + n := ⟨_, rfl⟩
  rw [← hN] at j1 cA9
  have HN := Lib.hid hN
  clear hN
  go_enter Try.func13, Try.ntmps13
  go_wp2_with (first
    | (go_at_call 24
       refine (HA.out _ B0.out).mono ?_
       rintro e u1 ⟨rfl, hb⟩
       have B1 := Lib.hid hb
       clear hb)
    | (go_at_call 26
       refine (HD.out _ B1.out).mono ?_
       rintro e u3 ⟨rfl, hb⟩
       have B3 := Lib.hid (B1.out.trans (hb.mono B1.out.size))
       have x0 : u3.cell? ⟨p, 0, none⟩ = some (.slice (some ⟨A, 0, none⟩) N cA) := by rw [HN.out]; exact blk_cell (HX.out.step B3.out).blk 0
       have xs : u3.cell? ⟨A, c * 3, none⟩ = some (.int .i64 (fl c)) := (HX.out.step B3.out).l0 hcl
       clear hb))
  go_ret
  exact ⟨rfl, B3.out⟩
theorem premove_ok {Q : World → Prop} (h : SX w p A cA B cB m n V cV fl pv nx sz wk F) (hm : m ≤ 65536) (hn : n ≤ 4096) (c : Nat) (hc : c < m) (hf : fl c ≠ -1)
    (hU : ∀ W, Below w.heap.size w W → Calls Try.prog 29 #[.pointer (some ⟨p, 0, none⟩), .int .i64 (c : Int)] W fun e w' => e = .returned (.tuple #[]) ∧ Q w') :
    Calls Try.prog 13 #[.pointer (some ⟨p, 0, none⟩), .int .i64 (c : Int)] w fun e w' => e = .returned (.int .i64 0) ∧ Q w' := by
  have hf' : (fl c == -1) = false := by simpa using hf
  have HU := Lib.hid hU
  clear hU
  have HX := Lib.hid h
  have j0 : (0 : Int) ≤ (c : Int) := by omega
  have HA : Hid (∀ W, Below w.heap.size w W → Calls Try.prog 24 #[.pointer (some ⟨p, 0, none⟩)] W (ret (.bool true) W)) := Lib.hid fun W hW => (h.step hW).made
  have HD : Hid (∀ W, Below w.heap.size w W → Calls Try.prog 26 #[.pointer (some ⟨p, 0, none⟩), .int .i64 (c : Int)] W (ret (.bool true) W)) := Lib.hid fun W hW => by
    have := (h.step hW).hasC hm hn c
    have e : (decide ((0 : Int) ≤ (c : Int)) && decide ((c : Int) < (m : Int))) = true := by simp; omega
    rwa [e] at this
  have B0 : Hid (Below w.heap.size w w) := Lib.hid (Below.refl _ _)
  have cA9 := h.cA9
  have hcl : c < m + n := by omega
  have j1 : (c : Int) < ((m + n : Nat) : Int) := by omega
  clear h
  obtain ⟨N, hN⟩ : ∃ N, N = m + n := ⟨_, rfl⟩
  rw [← hN] at j1 cA9
  have HN := Lib.hid hN
  clear hN
  go_enter Try.func13, Try.ntmps13
  go_wp2_with (first
    | (go_at_call 24
       refine (HA.out _ B0.out).mono ?_
       rintro e u1 ⟨rfl, hb⟩
       have B1 := Lib.hid hb
       clear hb)
    | (go_at_call 26
       refine (HD.out _ B1.out).mono ?_
       rintro e u3 ⟨rfl, hb⟩
       have B3 := Lib.hid (B1.out.trans (hb.mono B1.out.size))
       have x0 : u3.cell? ⟨p, 0, none⟩ = some (.slice (some ⟨A, 0, none⟩) N cA) := by rw [HN.out]; exact blk_cell (HX.out.step B3.out).blk 0
       have xs : u3.cell? ⟨A, c * 3, none⟩ = some (.int .i64 (fl c)) := (HX.out.step B3.out).l0 hcl
       clear hb)
    | (go_at_call 29
       refine (HU.out _ B3.out).mono ?_
       rintro e u4 ⟨rfl, hq⟩
       have HQ := Lib.hid hq
       clear hq))
  go_ret
  exact ⟨rfl, HQ.out⟩
theorem ppop_no (pa : Option Addr) (l : Int) (hL : Calls Try.prog 20 #[.pointer pa, .int .i64 l] w (ret (.int .i64 0) w)) : Calls Try.prog 11 #[.pointer pa, .int .i64 l] w (ret (.tuple #[.int .i64 0, .bool false]) w) := by
  have HL := Lib.hid hL
  clear hL
  go_enter Try.func11, Try.ntmps11
  go_wp2_with (first
    | (go_at_call 20
       refine HL.out.mono ?_
       rintro e u1 ⟨rfl, hb⟩
       have B1 := Lib.hid hb
       clear hb))
  go_ret2
  exact ⟨rfl, B1.out⟩
theorem ppop_ok {Q : World → Prop} (h : SX w p A cA B cB m n V cV fl pv nx sz wk F) (hm : m ≤ 65536) (hn : n ≤ 4096) (i c : Nat) (hi : i < n) (hs : sz i ≠ 0) (hc : c = nx (m + i))
    (hU : ∀ W, Below w.heap.size w W → Calls Try.prog 29 #[.pointer (some ⟨p, 0, none⟩), .int .i64 (c : Int)] W fun e w' => e = .returned (.tuple #[]) ∧ Q w') :
    Calls Try.prog 11 #[.pointer (some ⟨p, 0, none⟩), .int .i64 (i : Int)] w fun e w' => e = .returned (.tuple #[.int .i64 (c : Int), .bool true]) ∧ Q w' := by
  have hs' : ((sz i : Int) == 0) = false := by simpa using hs
  have HX := Lib.hid h
  have HU := Lib.hid hU
  have HL := Lib.hid (h.len i hi)
  have cA9 := h.cA9
  have hol : m + i < m + n := by omega
  have o1 : ((m + i : Nat) : Int) < ((m + n : Nat) : Int) := by omega
  have o0 : (0 : Int) ≤ ((m + i : Nat) : Int) := by omega
  clear hU h
  obtain ⟨N, hN⟩ : ∃ N, N = m + n := ⟨_, rfl⟩
  have HN := Lib.hid hN
  have HW : Hid (∀ W, Below w.heap.size w W → Calls Try.prog 23 #[.pointer (some ⟨p, 0, none⟩), .int .i64 (i : Int)] W (ret (.int .i64 ((m + i : Nat) : Int)) W)) := Lib.hid fun W hW => (HX.out.step hW).own hm hn i (by omega)
  obtain ⟨o, ho⟩ : ∃ o, o = m + i := ⟨_, rfl⟩
  rw [← ho] at HW hol o0 o1 hc
  rw [← hN] at cA9 o1
  have HC := Lib.hid hc
  clear hN ho hc hs
  go_enter Try.func11, Try.ntmps11
  go_upto_region 3 with (first
    | (go_at_call 20
       refine HL.out.mono ?_
       rintro e u1 ⟨rfl, hb⟩
       have B1 := Lib.hid hb
       clear hb))
  have HX1 := Lib.hid (HX.out.step B1.out)
  have y0 : ∀ W : Stay u1, W.w.cell? ⟨p, 0, none⟩ = some (.slice (some ⟨A, 0, none⟩) N cA) := fun W => Stay.cell (by rw [HN.out]; exact blk_cell HX1.out.blk 0) W
  have yx : ∀ W : Stay u1, W.w.cell? ⟨A, o * 3 + 2, none⟩ = some (.int .i64 (c : Int)) := fun W => Stay.cell (by rw [HC.out]; exact HX1.out.l2 hol) W
  have HWS : Hid (∀ W : Stay u1, Calls Try.prog 23 #[.pointer (some ⟨p, 0, none⟩), .int .i64 (i : Int)] W.w (ret (.int .i64 (o : Int)) W.w)) := Lib.hid fun W => HW.out _ (B1.out.trans (W.below.mono B1.out.size))
  refine wp_region_stay (by kernel_rfl) (by kernel_rfl) ?_
  repeat (go_big_quiet_step (first | (go_at_call 23; with_reducible exact Calls.stay _ (HWS.out ..))))
  refine wpQuiet_nil ?_
  intro w' hw'
  obtain ⟨W, rfl⟩ := hw'
  have HUW := Lib.hid (HU.out W.w (B1.out.trans (W.below.mono B1.out.size)))
  clear y0 yx HWS HW HX1 HU
  generalize W.w = u2 at *
  go_wp2_with (first
    | (go_at_call 29
       refine HUW.out.mono ?_
       rintro e u3 ⟨rfl, hq⟩
       have HQ := Lib.hid hq
       clear hq))
  go_ret2
  exact ⟨rfl, HQ.out⟩
end
end Go.Proofs.Ythlnhkkjpjbmeaa
