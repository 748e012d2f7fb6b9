import Derived.Test.YtimcdnbfdkpffaaGreatGm9
/- Stage 10: the landed Push. -/
namespace Go.Proofs.YtimcdnbfdkpffaaGreat
set_option maxRecDepth 100000
open Go.RowKit Go.Shelf
section
variable {w : World} {p A cA B cB m n : Nat} {V : Option Addr} {cV : Nat} {fl : Nat → Int} {pv nx sz : Nat → Nat} {wk : Option (Nat × Nat)} {F : Nat → Prop}
/-- Push where something is amiss. -/
theorem ppush_no (pa : Option Addr) (l c : Int) (a b d : Bool) (v : Int) (hv : v = if a = false then 1 else 2) (hno : a = false ∨ b = false ∨ d = false)
    (hA : ∀ W, Below w.heap.size w W → Calls Tryz.prog 127 #[.pointer pa] W (ret (.bool a) W))
    (hB : ∀ W, Below w.heap.size w W → Calls Tryz.prog 162 #[.pointer pa, .int .i64 l] W (ret (.bool b) W))
    (hD : ∀ W, Below w.heap.size w W → Calls Tryz.prog 137 #[.pointer pa, .int .i64 c] W (ret (.bool d) W)) :
    Calls Tryz.prog 170 #[.pointer pa, .int .i64 l, .int .i64 c] w (ret (.int .i64 v) w) := by
  have HA := Lib.hid hA
  have HB := Lib.hid hB
  have HD := Lib.hid hD
  have B0 : Hid (Below w.heap.size w w) := Lib.hid (Below.refl _ _)
  clear hA hB hD
  cases a with
  | false =>
    rw [if_pos rfl] at hv
    subst hv
    clear hno
    go_enter Tryz.func170, Tryz.ntmps170
    go_wp2_with (first
      | (go_at_call 127
         refine (HA.out _ B0.out).mono ?_
         rintro e u1 ⟨rfl, hb⟩
         have B1 := Lib.hid hb
         clear hb))
    go_ret
    exact ⟨rfl, B1.out⟩
  | true =>
    rw [if_neg (by simp)] at hv
    subst hv
    cases b with
    | false =>
      clear hno
      go_enter Tryz.func170, Tryz.ntmps170
      go_wp2_with (first
        | (go_at_call 127
           refine (HA.out _ B0.out).mono ?_
           rintro e u1 ⟨rfl, hb⟩
           have B1 := Lib.hid hb
           clear hb)
        | (go_at_call 162
           refine (HB.out _ B1.out).mono ?_
           rintro e u2 ⟨rfl, hb⟩
           have B2 := Lib.hid (B1.out.trans (hb.mono B1.out.size))
           clear hb))
      go_ret
      exact ⟨rfl, B2.out⟩
    | true =>
      obtain rfl : d = false := by simpa using hno
      clear hno
      go_enter Tryz.func170, Tryz.ntmps170
      go_wp2_with (first
        | (go_at_call 127
           refine (HA.out _ B0.out).mono ?_
           rintro e u1 ⟨rfl, hb⟩
           have B1 := Lib.hid hb
           clear hb)
        | (go_at_call 162
           refine (HB.out _ B1.out).mono ?_
           rintro e u2 ⟨rfl, hb⟩
           have B2 := Lib.hid (B1.out.trans (hb.mono B1.out.size))
           clear hb)
        | (go_at_call 137
           refine (HD.out _ B2.out).mono ?_
           rintro e u3 ⟨rfl, hb⟩
           have B3 := Lib.hid (B2.out.trans (hb.mono B2.out.size))
           clear hb))
      go_ret
      exact ⟨rfl, B3.out⟩
theorem ppush_twice (h : SX w p A cA B cB m n V cV fl pv nx sz wk F) (hm : m ≤ 65536) (hn : n ≤ 4096) (i c : Nat) (hi : i < n) (hc : c < m) (hf : fl c ≠ -1) : Calls Tryz.prog 170 #[.pointer (some ⟨p, 0, none⟩), .int .i64 (i : Int), .int .i64 (c : Int)] w (ret (.int .i64 8) w) := by
  have hf' : (fl c != -1) = true := by simpa using hf
  have HX := Lib.hid h
  have i0 : (0 : Int) ≤ (i : Int) := by omega
  have j0 : (0 : Int) ≤ (c : Int) := by omega
  have HA : Hid (∀ W, Below w.heap.size w W → Calls Tryz.prog 127 #[.pointer (some ⟨p, 0, none⟩)] W (ret (.bool true) W)) := Lib.hid fun W hW => (h.step hW).made
  have HB : Hid (∀ W, Below w.heap.size w W → Calls Tryz.prog 162 #[.pointer (some ⟨p, 0, none⟩), .int .i64 (i : Int)] W (ret (.bool true) W)) := Lib.hid fun W hW => by
    have := (h.step hW).hasL i
    have e : (decide ((0 : Int) ≤ (i : Int)) && decide ((i : Int) < (n : Int))) = true := by simp; omega
    rwa [e] at this
  have HD : Hid (∀ W, Below w.heap.size w W → Calls Tryz.prog 137 #[.pointer (some ⟨p, 0, none⟩), .int .i64 (c : Int)] W (ret (.bool true) W)) := Lib.hid fun W hW => by
    have := (h.step hW).hasC hm hn c
    have e : (decide ((0 : Int) ≤ (c : Int)) && decide ((c : Int) < (m : Int))) = true := by simp; omega
    rwa [e] at this
  have HW : Hid (∀ W, Below w.heap.size w W → Calls Tryz.prog 108 #[.pointer (some ⟨p, 0, none⟩), .int .i64 (i : Int)] W (ret (.int .i64 ((m + i : Nat) : Int)) W)) := Lib.hid fun W hW => (h.step hW).own hm hn i (by omega)
  have B0 : Hid (Below w.heap.size w w) := Lib.hid (Below.refl _ _)
  have cA9 := h.cA9
  have cB9 := h.cB9
  have hcl : c < m + n := by omega
  have j1 : (c : Int) < ((m + n : Nat) : Int) := by omega
  clear h
  obtain ⟨N, hN⟩ : ∃ N, N = m + n := ⟨_, rfl⟩
  rw [← hN] at j1 cA9
  have HN := Lib.hid hN
  clear hN
  go_enter Tryz.func170, Tryz.ntmps170
  go_wp2_with (first
    | (go_at_call 127
       refine (HA.out _ B0.out).mono ?_
       rintro e u1 ⟨rfl, hb⟩
       have B1 := Lib.hid hb
       clear hb)
    | (go_at_call 162
       refine (HB.out _ B1.out).mono ?_
       rintro e u2 ⟨rfl, hb⟩
       have B2 := Lib.hid (B1.out.trans (hb.mono B1.out.size))
       clear hb)
    | (go_at_call 137
       refine (HD.out _ B2.out).mono ?_
       rintro e u3 ⟨rfl, hb⟩
       have B3 := Lib.hid (B2.out.trans (hb.mono B2.out.size))
       have x0 : u3.cell? ⟨p, 0, none⟩ = some (.slice (some ⟨A, 0, none⟩) N cA) := by rw [HN.out]; exact blk_cell (HX.out.step B3.out).blk 0
       have xs : u3.cell? ⟨A, c * 3, none⟩ = some (.int .i64 (fl c)) := (HX.out.step B3.out).l0 hcl
       clear hb))
  go_ret
  exact ⟨rfl, B3.out⟩
set_option maxHeartbeats 1000000 in
theorem ppush_ok (h : SX w p A cA B cB m n V cV fl pv nx sz wk F) (hm : m ≤ 65536) (hn : n ≤ 4096) (i c la : Nat) (hi : i < n) (hc : c < m) (hf : fl c = -1) (hla : la = pv (m + i)) (hll : la < m + n) (_hne : la ≠ c) (hsz : sz i ≤ 65536) :
    Calls Tryz.prog 170 #[.pointer (some ⟨p, 0, none⟩), .int .i64 (i : Int), .int .i64 (c : Int)] w fun e w' => e = .returned (.int .i64 0) ∧
      SX w' p A cA B cB m n V cV (updI fl c (i : Int)) (updN (updN pv c la) (m + i) c) (updN (updN nx c (m + i)) la c) (updN sz i (sz i + 1)) wk F ∧ Kept (fun k => k = A ∨ k = B) w w' := by
  have hf' : (fl c != -1) = false := by simp [hf]
  have HX := Lib.hid h
  have i0 : (0 : Int) ≤ (i : Int) := by omega
  have j0 : (0 : Int) ≤ (c : Int) := by omega
  have HA : Hid (∀ W, Below w.heap.size w W → Calls Tryz.prog 127 #[.pointer (some ⟨p, 0, none⟩)] W (ret (.bool true) W)) := Lib.hid fun W hW => (h.step hW).made
  have HB : Hid (∀ W, Below w.heap.size w W → Calls Tryz.prog 162 #[.pointer (some ⟨p, 0, none⟩), .int .i64 (i : Int)] W (ret (.bool true) W)) := Lib.hid fun W hW => by
    have := (h.step hW).hasL i
    have e : (decide ((0 : Int) ≤ (i : Int)) && decide ((i : Int) < (n : Int))) = true := by simp; omega
    rwa [e] at this
  have HD : Hid (∀ W, Below w.heap.size w W → Calls Tryz.prog 137 #[.pointer (some ⟨p, 0, none⟩), .int .i64 (c : Int)] W (ret (.bool true) W)) := Lib.hid fun W hW => by
    have := (h.step hW).hasC hm hn c
    have e : (decide ((0 : Int) ≤ (c : Int)) && decide ((c : Int) < (m : Int))) = true := by simp; omega
    rwa [e] at this
  have HW : Hid (∀ W, Below w.heap.size w W → Calls Tryz.prog 108 #[.pointer (some ⟨p, 0, none⟩), .int .i64 (i : Int)] W (ret (.int .i64 ((m + i : Nat) : Int)) W)) := Lib.hid fun W hW => (h.step hW).own hm hn i (by omega)
  have B0 : Hid (Below w.heap.size w w) := Lib.hid (Below.refl _ _)
  have cA9 := h.cA9
  have cB9 := h.cB9
  have hcl : c < m + n := by omega
  have j1 : (c : Int) < ((m + n : Nat) : Int) := by omega
  clear h
  obtain ⟨N, hN⟩ : ∃ N, N = m + n := ⟨_, rfl⟩
  have HN := Lib.hid hN
  obtain ⟨o, ho⟩ : ∃ o, o = m + i := ⟨_, rfl⟩
  have hol : o < m + n := by omega
  have o0 : (0 : Int) ≤ (o : Int) := by omega
  have o1 : (o : Int) < ((m + n : Nat) : Int) := by omega
  have l0 : (0 : Int) ≤ (la : Int) := by omega
  have l1 : (la : Int) < ((m + n : Nat) : Int) := by omega
  have i1 : (i : Int) < (n : Int) := by omega
  have zw : IntKind.i64.wrap ((sz i : Int) + 1) = ((sz i + 1 : Nat) : Int) := by rw [IntKind.wrap_i64]; omega
  rw [← ho] at hla HW ⊢
  have HLA := Lib.hid hla
  rw [← hN] at j1 o1 l1 cA9
  clear hN ho hla
  have hbl : ∀ W, (Instr.build 196 #[(0, .int .i64 (i : Int)), (1, .int .i64 (la : Int)), (2, .int .i64 (o : Int))]).run Tryz.prog W = .ok (.agg #[.int .i64 (i : Int), .int .i64 (la : Int), .int .i64 (o : Int)]) W := fun W => by kernel_rfl
  go_enter Tryz.func170, Tryz.ntmps170
  go_upto_region 9 with (first
    | (go_at_call 127
       refine (HA.out _ B0.out).mono ?_
       rintro e u1 ⟨rfl, hb⟩
       have B1 := Lib.hid hb
       clear hb)
    | (go_at_call 162
       refine (HB.out _ B1.out).mono ?_
       rintro e u2 ⟨rfl, hb⟩
       have B2 := Lib.hid (B1.out.trans (hb.mono B1.out.size))
       clear hb)
    | (go_at_call 137
       refine (HD.out _ B2.out).mono ?_
       rintro e u3 ⟨rfl, hb⟩
       have B3 := Lib.hid (B2.out.trans (hb.mono B2.out.size))
       have x0 : u3.cell? ⟨p, 0, none⟩ = some (.slice (some ⟨A, 0, none⟩) N cA) := by rw [HN.out]; exact blk_cell (HX.out.step B3.out).blk 0
       have xs : u3.cell? ⟨A, c * 3, none⟩ = some (.int .i64 (fl c)) := (HX.out.step B3.out).l0 hcl
       clear hb)
    | (go_at_call 108
       refine (HW.out _ B3.out).mono ?_
       rintro e u4 ⟨rfl, hb⟩
       have B4 := Lib.hid (B3.out.trans (hb.mono B3.out.size))
       clear x0 xs
       have HX4 := Lib.hid (HX.out.step B4.out)
       have x0 : u4.cell? ⟨p, 0, none⟩ = some (.slice (some ⟨A, 0, none⟩) N cA) := by rw [HN.out]; exact blk_cell HX4.out.blk 0
       have xs : u4.cell? ⟨A, o * 3 + 1, none⟩ = some (.int .i64 (la : Int)) := by rw [HLA.out]; exact HX4.out.l1 hol
       clear hb))
  clear xs
  have K4 : Hid (Kept (fun k => k = A ∨ k = B) w u4) := Lib.hid (Kept.of_below B4.out _)
  go_upto_region 10 with (first
    | (refine wpList_store_mid rfl 196 (.tmp 51) (.tmp 50) rfl A (c * 3) #[.int .i64 (i : Int), .int .i64 (la : Int), .int .i64 (o : Int)] rfl rfl (HX4.out.there hcl) (by kernel_rfl) (by simp [Value.oneCell']) ?_))
  have HX5 := Lib.hid (HX4.out.put c (i : Int) la o)
  have K5 : Hid (Kept (fun k => k = A ∨ k = B) w (u4.setCells A (c * 3) [.int .i64 (i : Int), .int .i64 (la : Int), .int .i64 (o : Int)])) := Lib.hid (K4.out.setCells (.inl (.inl rfl)) _ _)
  clear HX4 K4 x0
  try simp only [Act.put]
  generalize u4.setCells A (c * 3) [.int .i64 (i : Int), .int .i64 (la : Int), .int .i64 (o : Int)] = u5 at *
  have x0 : u5.cell? ⟨p, 0, none⟩ = some (.slice (some ⟨A, 0, none⟩) N cA) := by rw [HN.out]; exact blk_cell HX5.out.blk 0
  have xe : u5.cell? ⟨A, la * 3 + 2, none⟩ = some (.int .i64 (updN nx c o la : Nat)) := HX5.out.l2 hll
  have xf : u5.frozen? ⟨A, la * 3 + 2, none⟩ = false := HX5.out.fzA _
  go_upto_region 11 with fail
  have HX6 := Lib.hid (HX5.out.setN la c)
  have K6 : Hid (Kept (fun k => k = A ∨ k = B) w (u5.setCell ⟨A, la * 3 + 2, none⟩ (.int .i64 (c : Int)))) := Lib.hid (K5.out.setCell (p := ⟨A, la * 3 + 2, none⟩) (.inl (.inl rfl)) _)
  clear HX5 K5 x0 xe xf
  generalize u5.setCell ⟨A, la * 3 + 2, none⟩ (.int .i64 (c : Int)) = u6 at *
  have x0 : u6.cell? ⟨p, 0, none⟩ = some (.slice (some ⟨A, 0, none⟩) N cA) := by rw [HN.out]; exact blk_cell HX6.out.blk 0
  have xe : u6.cell? ⟨A, o * 3 + 1, none⟩ = some (.int .i64 (updN pv c la o : Nat)) := HX6.out.l1 hol
  have xf : u6.frozen? ⟨A, o * 3 + 1, none⟩ = false := HX6.out.fzA _
  go_upto_region 12 with fail
  have HX7 := Lib.hid (HX6.out.setP o c)
  have K7 : Hid (Kept (fun k => k = A ∨ k = B) w (u6.setCell ⟨A, o * 3 + 1, none⟩ (.int .i64 (c : Int)))) := Lib.hid (K6.out.setCell (p := ⟨A, o * 3 + 1, none⟩) (.inl (.inl rfl)) _)
  clear HX6 K6 x0 xe xf
  generalize u6.setCell ⟨A, o * 3 + 1, none⟩ (.int .i64 (c : Int)) = u7 at *
  have x1 : u7.cell? ⟨p, 1, none⟩ = some (.slice (some ⟨B, 0, none⟩) n cB) := blk_cell HX7.out.blk 1
  have xe : u7.cell? ⟨B, i, none⟩ = some (.int .i64 (sz i : Int)) := HX7.out.s0 hi
  have xf : u7.frozen? ⟨B, i, none⟩ = false := HX7.out.fzB _
  go_wp2_with fail
  go_ret
  exact ⟨rfl, HX7.out.setS i (sz i + 1), K7.out.setCell (p := ⟨B, i, none⟩) (.inl (.inr rfl)) _⟩
end
end Go.Proofs.YtimcdnbfdkpffaaGreat
