import Derived.Test.YtimcdnbfdkpffaaGreatGm11
/- Stage 10: the landed Remove, Pop. -/
namespace Go.Proofs.YtimcdnbfdkpffaaGreat
set_option maxRecDepth 100000
open Go.RowKit Go.Shelf
section
variable {w : World} {p A cA B cB m n : Nat} {V : Option Addr} {cV : Nat} {fl : Nat → Int} {pv nx sz : Nat → Nat} {wk : Option (Nat × Nat)} {F : Nat → Prop}
theorem premove_no (pa : Option Addr) (c : Int) (a d : Bool) (v : Int) (hv : v = if a = false then 1 else 2) (hno : a = false ∨ d = false)
    (hA : ∀ W, Below w.heap.size w W → Calls Tryz.prog 127 #[.pointer pa] W (ret (.bool a) W))
    (hD : ∀ W, Below w.heap.size w W → Calls Tryz.prog 137 #[.pointer pa, .int .i64 c] W (ret (.bool d) W)) :
    Calls Tryz.prog 90 #[.pointer pa, .int .i64 c] w (ret (.int .i64 v) w) := by
  have HA := Lib.hid hA
  have HD := Lib.hid hD
  have B0 : Hid (Below w.heap.size w w) := Lib.hid (Below.refl _ _)
  clear hA hD
  cases a with
  | false =>
    rw [if_pos rfl] at hv
    subst hv
    clear hno
    go_enter Tryz.func90, Tryz.ntmps90
    go_wp2_with (first
      | (go_at_call 127
         refine (HA.out _ B0.out).mono ?_
         rintro e u1 ⟨rfl, hb⟩
         have B1 := Lib.hid hb
         clear hb))
    go_ret
    exact ⟨rfl, B1.out⟩
  | true =>
    rw [if_neg (by simp)] at hv
    subst hv
    obtain rfl : d = false := by simpa using hno
    clear hno
    go_enter Tryz.func90, Tryz.ntmps90
    go_wp2_with (first
      | (go_at_call 127
         refine (HA.out _ B0.out).mono ?_
         rintro e u1 ⟨rfl, hb⟩
         have B1 := Lib.hid hb
         clear hb)
      | (go_at_call 137
         refine (HD.out _ B1.out).mono ?_
         rintro e u3 ⟨rfl, hb⟩
         have B3 := Lib.hid (B1.out.trans (hb.mono B1.out.size))
         clear hb))
    go_ret
    exact ⟨rfl, B3.out⟩
theorem premove_none (h : SX w p A cA B cB m n V cV fl pv nx sz wk F) (hm : m ≤ 65536) (hn : n ≤ 4096) (c : Nat) (hc : c < m) (hf : fl c = -1) : Calls Tryz.prog 90 #[.pointer (some ⟨p, 0, none⟩), .int .i64 (c : Int)] w (ret (.int .i64 7) w) := by
  have hf' : (fl c == -1) = true := by simpa using hf
  have HX := Lib.hid h
  have j0 : (0 : Int) ≤ (c : Int) := by omega
  have HA : Hid (∀ W, Below w.heap.size w W → Calls Tryz.prog 127 #[.pointer (some ⟨p, 0, none⟩)] W (ret (.bool true) W)) := Lib.hid fun W hW => (h.step hW).made
  have HD : Hid (∀ W, Below w.heap.size w W → Calls Tryz.prog 137 #[.pointer (some ⟨p, 0, none⟩), .int .i64 (c : Int)] W (ret (.bool true) W)) := Lib.hid fun W hW => by
    have := (h.step hW).hasC hm hn c
    have e : (decide ((0 : Int) ≤ (c : Int)) && decide ((c : Int) < (m : Int))) = true := by simp; omega
    rwa [e] at this
  have B0 : Hid (Below w.heap.size w w) := Lib.hid (Below.refl _ _)
  have cA9 := h.cA9
  have hcl : c < m + n := by omega
  have j1 : (c : Int) < ((m + n : Nat) : Int) := by omega
  clear h
  obtain ⟨N, hN⟩ : ∃ N, N = m + n := ⟨_, rfl⟩
  rw [← hN] at j1 cA9
  have HN := Lib.hid hN
  clear hN
  go_enter Tryz.func90, Tryz.ntmps90
  go_wp2_with (first
    | (go_at_call 127
       refine (HA.out _ B0.out).mono ?_
       rintro e u1 ⟨rfl, hb⟩
       have B1 := Lib.hid hb
       clear hb)
    | (go_at_call 137
       refine (HD.out _ B1.out).mono ?_
       rintro e u3 ⟨rfl, hb⟩
       have B3 := Lib.hid (B1.out.trans (hb.mono B1.out.size))
       have x0 : u3.cell? ⟨p, 0, none⟩ = some (.slice (some ⟨A, 0, none⟩) N cA) := by rw [HN.out]; exact blk_cell (HX.out.step B3.out).blk 0
       have xs : u3.cell? ⟨A, c * 3, none⟩ = some (.int .i64 (fl c)) := (HX.out.step B3.out).l0 hcl
       clear hb))
  go_ret
  exact ⟨rfl, B3.out⟩
theorem premove_ok {Q : World → Prop} (h : SX w p A cA B cB m n V cV fl pv nx sz wk F) (hm : m ≤ 65536) (hn : n ≤ 4096) (c : Nat) (hc : c < m) (hf : fl c ≠ -1)
    (hU : ∀ W, Below w.heap.size w W → Calls Tryz.prog 138 #[.pointer (some ⟨p, 0, none⟩), .int .i64 (c : Int)] W fun e w' => e = .returned (.tuple #[]) ∧ Q w') :
    Calls Tryz.prog 90 #[.pointer (some ⟨p, 0, none⟩), .int .i64 (c : Int)] w fun e w' => e = .returned (.int .i64 0) ∧ Q w' := by
  have hf' : (fl c == -1) = false := by simpa using hf
  have HU := Lib.hid hU
  clear hU
  have HX := Lib.hid h
  have j0 : (0 : Int) ≤ (c : Int) := by omega
  have HA : Hid (∀ W, Below w.heap.size w W → Calls Tryz.prog 127 #[.pointer (some ⟨p, 0, none⟩)] W (ret (.bool true) W)) := Lib.hid fun W hW => (h.step hW).made
  have HD : Hid (∀ W, Below w.heap.size w W → Calls Tryz.prog 137 #[.pointer (some ⟨p, 0, none⟩), .int .i64 (c : Int)] W (ret (.bool true) W)) := Lib.hid fun W hW => by
    have := (h.step hW).hasC hm hn c
    have e : (decide ((0 : Int) ≤ (c : Int)) && decide ((c : Int) < (m : Int))) = true := by simp; omega
    rwa [e] at this
  have B0 : Hid (Below w.heap.size w w) := Lib.hid (Below.refl _ _)
  have cA9 := h.cA9
  have hcl : c < m + n := by omega
  have j1 : (c : Int) < ((m + n : Nat) : Int) := by omega
  clear h
  obtain ⟨N, hN⟩ : ∃ N, N = m + n := ⟨_, rfl⟩
  rw [← hN] at j1 cA9
  have HN := Lib.hid hN
  clear hN
  go_enter Tryz.func90, Tryz.ntmps90
  go_wp2_with (first
    | (go_at_call 127
       refine (HA.out _ B0.out).mono ?_
       rintro e u1 ⟨rfl, hb⟩
       have B1 := Lib.hid hb
       clear hb)
    | (go_at_call 137
       refine (HD.out _ B1.out).mono ?_
       rintro e u3 ⟨rfl, hb⟩
       have B3 := Lib.hid (B1.out.trans (hb.mono B1.out.size))
       have x0 : u3.cell? ⟨p, 0, none⟩ = some (.slice (some ⟨A, 0, none⟩) N cA) := by rw [HN.out]; exact blk_cell (HX.out.step B3.out).blk 0
       have xs : u3.cell? ⟨A, c * 3, none⟩ = some (.int .i64 (fl c)) := (HX.out.step B3.out).l0 hcl
       clear hb)
    | (go_at_call 138
       refine (HU.out _ B3.out).mono ?_
       rintro e u4 ⟨rfl, hq⟩
       have HQ := Lib.hid hq
       clear hq))
  go_ret
  exact ⟨rfl, HQ.out⟩
theorem ppop_no (pa : Option Addr) (l : Int) (hL : Calls Tryz.prog 167 #[.pointer pa, .int .i64 l] w (ret (.int .i64 0) w)) : Calls Tryz.prog 168 #[.pointer pa, .int .i64 l] w (ret (.tuple #[.int .i64 0, .bool false]) w) := by
  have HL := Lib.hid hL
  clear hL
  go_enter Tryz.func168, Tryz.ntmps168
  go_wp2_with (first
    | (go_at_call 167
       refine HL.out.mono ?_
       rintro e u1 ⟨rfl, hb⟩
       have B1 := Lib.hid hb
       clear hb))
  go_ret2
  exact ⟨rfl, B1.out⟩
theorem ppop_ok {Q : World → Prop} (h : SX w p A cA B cB m n V cV fl pv nx sz wk F) (hm : m ≤ 65536) (hn : n ≤ 4096) (i c : Nat) (hi : i < n) (hs : sz i ≠ 0) (hc : c = nx (m + i))
    (hU : ∀ W, Below w.heap.size w W → Calls Tryz.prog 138 #[.pointer (some ⟨p, 0, none⟩), .int .i64 (c : Int)] W fun e w' => e = .returned (.tuple #[]) ∧ Q w') :
    Calls Tryz.prog 168 #[.pointer (some ⟨p, 0, none⟩), .int .i64 (i : Int)] w fun e w' => e = .returned (.tuple #[.int .i64 (c : Int), .bool true]) ∧ Q w' := by
  have hs' : ((sz i : Int) == 0) = false := by simpa using hs
  have HX := Lib.hid h
  have HU := Lib.hid hU
  have HL := Lib.hid (h.len i hi)
  have cA9 := h.cA9
  have hol : m + i < m + n := by omega
  have o1 : ((m + i : Nat) : Int) < ((m + n : Nat) : Int) := by omega
  have o0 : (0 : Int) ≤ ((m + i : Nat) : Int) := by omega
  clear hU h
  obtain ⟨N, hN⟩ : ∃ N, N = m + n := ⟨_, rfl⟩
  have HN := Lib.hid hN
  have HW : Hid (∀ W, Below w.heap.size w W → Calls Tryz.prog 108 #[.pointer (some ⟨p, 0, none⟩), .int .i64 (i : Int)] W (ret (.int .i64 ((m + i : Nat) : Int)) W)) := Lib.hid fun W hW => (HX.out.step hW).own hm hn i (by omega)
  obtain ⟨o, ho⟩ : ∃ o, o = m + i := ⟨_, rfl⟩
  rw [← ho] at HW hol o0 o1 hc
  rw [← hN] at cA9 o1
  have HC := Lib.hid hc
  clear hN ho hc hs
  go_enter Tryz.func168, Tryz.ntmps168
  go_upto_region 3 with (first
    | (go_at_call 167
       refine HL.out.mono ?_
       rintro e u1 ⟨rfl, hb⟩
       have B1 := Lib.hid hb
       clear hb))
  have HX1 := Lib.hid (HX.out.step B1.out)
  have y0 : ∀ W : Stay u1, W.w.cell? ⟨p, 0, none⟩ = some (.slice (some ⟨A, 0, none⟩) N cA) := fun W => Stay.cell (by rw [HN.out]; exact blk_cell HX1.out.blk 0) W
  have yx : ∀ W : Stay u1, W.w.cell? ⟨A, o * 3 + 2, none⟩ = some (.int .i64 (c : Int)) := fun W => Stay.cell (by rw [HC.out]; exact HX1.out.l2 hol) W
  have HWS : Hid (∀ W : Stay u1, Calls Tryz.prog 108 #[.pointer (some ⟨p, 0, none⟩), .int .i64 (i : Int)] W.w (ret (.int .i64 (o : Int)) W.w)) := Lib.hid fun W => HW.out _ (B1.out.trans (W.below.mono B1.out.size))
  refine wp_region_stay (by kernel_rfl) (by kernel_rfl) ?_
  repeat (go_big_quiet_step (first | (go_at_call 108; with_reducible exact Calls.stay _ (HWS.out ..))))
  refine wpQuiet_nil ?_
  intro w' hw'
  obtain ⟨W, rfl⟩ := hw'
  have HUW := Lib.hid (HU.out W.w (B1.out.trans (W.below.mono B1.out.size)))
  clear y0 yx HWS HW HX1 HU
  generalize W.w = u2 at *
  go_wp2_with (first
    | (go_at_call 138
       refine HUW.out.mono ?_
       rintro e u3 ⟨rfl, hq⟩
       have HQ := Lib.hid hq
       clear hq))
  go_ret2
  exact ⟨rfl, HQ.out⟩
end
end Go.Proofs.YtimcdnbfdkpffaaGreat
/- Stage 10: the landed Copy, New. -/
namespace Go.Proofs.YtimcdnbfdkpffaaGreat
set_option maxRecDepth 100000
open Go.RowKit Go.Shelf
theorem Tryz.infoLK : (Tryz.prog.info? 196).map (fun i => (i.zero, i.size, i.bytes)) = some (some (.agg #[.int .i64 0, .int .i64 0, .int .i64 0]), 3, 24) := by kernel_rfl
theorem Tryz.infoIN : (Tryz.prog.info? 3).map (fun i => (i.zero, i.size, i.bytes)) = some (some (.int .i64 0), 1, 8) := by kernel_rfl
set_option maxHeartbeats 1000000 in
theorem pcloneL {w : World} {g n c : Nat} {f : Nat → Value} (h : OwnC w 0 196 3 (some ⟨g, 0, none⟩) n c f) (hpos : 0 < n) (hn : n ≤ 70000) (hone : ∀ k, (f k).oneCell' = true) : Calls Tryz.prog 128 #[.slice (some ⟨g, 0, none⟩) n c] w fun e w' => ∃ g2 c2, e = .returned (.slice (some ⟨g2, 0, none⟩) n c2) ∧ w.heap.size ≤ g2 ∧ OwnC w' w.heap.size 196 3 (some ⟨g2, 0, none⟩) n c2 f ∧ Below w.heap.size w w' := by
  obtain ⟨i0, hi0, hz0, hz1, hz2⟩ := info_parts Tryz.infoLK
  have HI0 := Lib.hid hi0
  have HZ0 := Lib.hid hz0
  have HZ1 := Lib.hid hz1
  have HZ2 := Lib.hid hz2
  have HO4 : Hid (OwnC (w.alloc (.cells #[] 196)) w.heap.size 196 3 (some ⟨w.heap.size, 0, none⟩) 0 0 (fun _ => .int .u64 0)) := Lib.hid (OwnC.fresh w _ _ rfl (Nat.le_refl _) _ _ _)
  have HR4 := Lib.hid (h.below (below_alloc w (.cells #[] 196))).rd
  clear hi0 hz0 hz1 hz2 h
  have hnil : ∀ W, (binOp .eql 190 (.slice (some ⟨g, 0, none⟩) n c) (.slice none 0 0)).run Tryz.prog W = .ok (.bool false) W := fun W => by kernel_rfl
  go_enter Tryz.func128, Tryz.ntmps128
  go_wp2_with (first
    | (at_builtin
       refine wpList_append_vals rfl (.tmp 5) (.tmp 6) 190 rfl w.heap.size 196 i0 (.agg #[.int .i64 0, .int .i64 0, .int .i64 0]) 3 Tryz.underlying190 HI0.out HZ0.out HZ1.out rfl (by decide) rfl HO4.out rfl HR4.out (fun k _ => hone k) (by unfold maxLen; omega) (by rw [HZ2.out]; omega) (alloc_le w _) ?_
       intro A2 c2 u5 hown5 hg5 _
       have HO5 : Hid (OwnC u5 w.heap.size 196 3 A2 n c2 f) := Lib.hid (by
         rw [Nat.zero_add] at hown5
         exact hown5.same fun k _ => by unfold catV; rw [if_neg (by omega)]; rfl)
       have HB5 : Hid (Below w.heap.size w u5) := Lib.hid ((below_alloc w _).grown hg5 (alloc_le w _) fun k hk => HO4.out.at_ k hk)
       rw [Nat.zero_add]
       clear hown5 hg5))
  go_ret
  obtain ⟨g2, hg2, hgb, _⟩ := HO5.out.lies hpos
  subst hg2
  exact ⟨g2, c2, rfl, hgb, HO5.out, HB5.out⟩
set_option maxHeartbeats 1000000 in
theorem pcloneI {w : World} {g n c : Nat} {f : Nat → Value} (h : OwnC w 0 3 1 (some ⟨g, 0, none⟩) n c f) (hpos : 0 < n) (hn : n ≤ 70000) (hone : ∀ k, (f k).oneCell' = true) : Calls Tryz.prog 129 #[.slice (some ⟨g, 0, none⟩) n c] w fun e w' => ∃ g2 c2, e = .returned (.slice (some ⟨g2, 0, none⟩) n c2) ∧ w.heap.size ≤ g2 ∧ OwnC w' w.heap.size 3 1 (some ⟨g2, 0, none⟩) n c2 f ∧ Below w.heap.size w w' := by
  obtain ⟨i0, hi0, hz0, hz1, hz2⟩ := info_parts Tryz.infoIN
  have HI0 := Lib.hid hi0
  have HZ0 := Lib.hid hz0
  have HZ1 := Lib.hid hz1
  have HZ2 := Lib.hid hz2
  have HO4 : Hid (OwnC (w.alloc (.cells #[] 3)) w.heap.size 3 1 (some ⟨w.heap.size, 0, none⟩) 0 0 (fun _ => .int .u64 0)) := Lib.hid (OwnC.fresh w _ _ rfl (Nat.le_refl _) _ _ _)
  have HR4 := Lib.hid (h.below (below_alloc w (.cells #[] 3))).rd
  clear hi0 hz0 hz1 hz2 h
  have hnil : ∀ W, (binOp .eql 191 (.slice (some ⟨g, 0, none⟩) n c) (.slice none 0 0)).run Tryz.prog W = .ok (.bool false) W := fun W => by kernel_rfl
  go_enter Tryz.func129, Tryz.ntmps129
  go_wp2_with (first
    | (at_builtin
       refine wpList_append_vals rfl (.tmp 5) (.tmp 6) 191 rfl w.heap.size 3 i0 (.int .i64 0) 1 Tryz.underlying191 HI0.out HZ0.out HZ1.out rfl (by decide) rfl HO4.out rfl HR4.out (fun k _ => hone k) (by unfold maxLen; omega) (by rw [HZ2.out]; omega) (alloc_le w _) ?_
       intro A2 c2 u5 hown5 hg5 _
       have HO5 : Hid (OwnC u5 w.heap.size 3 1 A2 n c2 f) := Lib.hid (by
         rw [Nat.zero_add] at hown5
         exact hown5.same fun k _ => by unfold catV; rw [if_neg (by omega)]; rfl)
       have HB5 : Hid (Below w.heap.size w u5) := Lib.hid ((below_alloc w _).grown hg5 (alloc_le w _) fun k hk => HO4.out.at_ k hk)
       rw [Nat.zero_add]
       clear hown5 hg5))
  go_ret
  obtain ⟨g2, hg2, hgb, _⟩ := HO5.out.lies hpos
  subst hg2
  exact ⟨g2, c2, rfl, hgb, HO5.out, HB5.out⟩
section
variable {w : World} {p A cA B cB m n : Nat} {V : Option Addr} {cV : Nat} {fl : Nat → Int} {pv nx sz : Nat → Nat} {wk : Option (Nat × Nat)} {F : Nat → Prop}
set_option maxHeartbeats 2000000 in
theorem pcopyX (h : SX w p A cA B cB m n V cV fl pv nx sz wk F) (hm : m ≤ 65536) (hn : n ≤ 4096) : Calls Tryz.prog 82 #[.pointer (some ⟨p, 0, none⟩)] w fun e w' => ∃ b g2 c2 g3 c3, e = .returned (.pointer (some ⟨b, 0, none⟩)) ∧ SX w' b g2 c2 g3 c3 m n none 0 fl pv nx sz none (fun k => k = b ∨ k = g2 ∨ k = g3) ∧ w.heap.size ≤ b ∧ w.heap.size ≤ g2 ∧ w.heap.size ≤ g3 ∧ Below w.heap.size w w' := by
  have HX := Lib.hid h
  have HM := Lib.hid h.made
  have HPOS := Lib.hid h.pos
  have HMP := Lib.hid h.mpos
  have HNP : Hid (0 < m + n) := Lib.hid (by have := h.pos; omega)
  have HN7 : Hid (m + n ≤ 70000) := Lib.hid (by omega)
  have HN8 : Hid (n ≤ 70000) := Lib.hid (by omega)
  clear h
  obtain ⟨N, hN⟩ : ∃ N, N = m + n := ⟨_, rfl⟩
  have HN := Lib.hid hN
  rw [← hN] at HNP HN7
  clear hN
  go_enter Tryz.func82, Tryz.ntmps82
  go_upto_region 3 with (first
    | (go_at_call 127
       refine HM.out.mono ?_
       rintro e u1 ⟨rfl, hb⟩
       have HB1 := Lib.hid hb
       have HX1 := Lib.hid (HX.out.step hb)
       clear hb))
  have x0 : u1.cell? ⟨p, 0, none⟩ = some (.slice (some ⟨A, 0, none⟩) N cA) := by rw [HN.out]; exact blk_cell HX1.out.blk 0
  have x1 : u1.cell? ⟨p, 1, none⟩ = some (.slice (some ⟨B, 0, none⟩) n cB) := blk_cell HX1.out.blk 1
  have HPL : Hid (p < u1.heap.size) := Lib.hid (lt_heap HX1.out.blk)
  refine wp_region_grow (C := fun W => Below u1.heap.size u1 W) 10 18 [val (.pointer (some ⟨p, 0, none⟩)), val (.pointer (some ⟨p, 0, none⟩)), val (.pointer (some ⟨p, 0, none⟩)), val (.slice (some ⟨A, 0, none⟩) N cA), fun v W => ∃ g2 c2, v = .slice (some ⟨g2, 0, none⟩) N c2 ∧ u1.heap.size ≤ g2 ∧ OwnC W u1.heap.size 196 3 (some ⟨g2, 0, none⟩) N c2 (lcell fl pv nx), val (.pointer (some ⟨p, 0, none⟩)), val (.pointer (some ⟨p, 0, none⟩)), val (.pointer (some ⟨p, 1, none⟩)), val (.slice (some ⟨B, 0, none⟩) n cB), fun v W => ∃ g2 c2, v = .slice (some ⟨g2, 0, none⟩) n c2 ∧ u1.heap.size ≤ g2 ∧ OwnC W u1.heap.size 3 1 (some ⟨g2, 0, none⟩) n c2 (fun k => .int .i64 (sz k : Int))] (by kernel_rfl) rfl (by kernel_rfl) rfl ⟨stb_val _, stb_val _, stb_val _, stb_val _, (fun v W W' h hb => by obtain ⟨g2, c2, h1, h2, h3⟩ := h; exact ⟨g2, c2, h1, h2, h3.below hb⟩), stb_val _, stb_val _, stb_val _, stb_val _, (fun v W W' h hb => by obtain ⟨g2, c2, h1, h2, h3⟩ := h; exact ⟨g2, c2, h1, h2, h3.below hb⟩), trivial⟩ (Below.refl _ _).drew ?_ ?_
  · refine each_cons ?_ ?_
    · intro a W hW hd
      have h0 : a.tmps[0]?.getD undef = .pointer (some ⟨p, 0, none⟩) := slot_eq (hd 0 (by decide))
      exact grows_value _ hW (by simp [execOp, Act.eval, h0]) rfl
    refine each_cons ?_ ?_
    · intro a W hW hd
      have h6 : a.tmps[6]?.getD undef = .pointer (some ⟨p, 0, none⟩) := slot_eq (hd 6 (by decide))
      refine grows_value _ hW (?_ : _ = _) rfl
      clear hd
      go_simp
    refine each_cons ?_ ?_
    · intro a W hW hd
      have h7 : a.tmps[7]?.getD undef = .pointer (some ⟨p, 0, none⟩) := slot_eq (hd 7 (by decide))
      refine grows_value _ hW (?_ : _ = _) rfl
      clear hd
      go_simp
    refine each_cons ?_ ?_
    · intro a W hW hd
      have h8 : a.tmps[8]?.getD undef = .pointer (some ⟨p, 0, none⟩) := slot_eq (hd 8 (by decide))
      have hld := (hW.cell (p := ⟨p, 0, none⟩) HPL.out).trans x0
      refine grows_value _ hW (?_ : _ = _) rfl
      clear hd
      go_simp
    refine each_cons ?_ ?_
    · intro a W hW hd
      have h9 : a.tmps[9]?.getD undef = .slice (some ⟨A, 0, none⟩) N cA := slot_eq (hd 9 (by decide))
      refine grows_call (fn := 128) (args := #[.slice (some ⟨A, 0, none⟩) N cA]) (by clear hd; go_simp) ?_
      refine (pcloneL (by have := (HX1.out.step hW).rowA; rw [← HN.out] at this; exact this) HNP.out HN7.out (lcell_one fl pv nx)).mono ?_
      rintro e W' ⟨g2, c2, rfl, hg, ho, hb⟩
      exact ⟨_, rfl, ⟨g2, c2, rfl, Nat.le_trans hW.size hg, ho.le hW.size⟩, hb, hW.trans (hb.mono hW.size)⟩
    refine each_cons ?_ ?_
    · intro a W hW hd
      have h0 : a.tmps[0]?.getD undef = .pointer (some ⟨p, 0, none⟩) := slot_eq (hd 0 (by decide))
      exact grows_value _ hW (by simp [execOp, Act.eval, h0]) rfl
    refine each_cons ?_ ?_
    · intro a W hW hd
      have h11 : a.tmps[11]?.getD undef = .pointer (some ⟨p, 0, none⟩) := slot_eq (hd 11 (by decide))
      refine grows_value _ hW (?_ : _ = _) rfl
      clear hd
      go_simp
    refine each_cons ?_ ?_
    · intro a W hW hd
      have h12 : a.tmps[12]?.getD undef = .pointer (some ⟨p, 0, none⟩) := slot_eq (hd 12 (by decide))
      refine grows_value _ hW (?_ : _ = _) rfl
      clear hd
      go_simp
    refine each_cons ?_ ?_
    · intro a W hW hd
      have h13 : a.tmps[13]?.getD undef = .pointer (some ⟨p, 1, none⟩) := slot_eq (hd 13 (by decide))
      have hld := (hW.cell (p := ⟨p, 1, none⟩) HPL.out).trans x1
      refine grows_value _ hW (?_ : _ = _) rfl
      clear hd
      go_simp
    refine each_cons ?_ ?_
    · intro a W hW hd
      have h14 : a.tmps[14]?.getD undef = .slice (some ⟨B, 0, none⟩) n cB := slot_eq (hd 14 (by decide))
      refine grows_call (fn := 129) (args := #[.slice (some ⟨B, 0, none⟩) n cB]) (by clear hd; go_simp) ?_
      refine (pcloneI (HX1.out.step hW).rowB HPOS.out HN8.out (fun _ => rfl)).mono ?_
      rintro e W' ⟨g2, c2, rfl, hg, ho, hb⟩
      exact ⟨_, rfl, ⟨g2, c2, rfl, Nat.le_trans hW.size hg, ho.le hW.size⟩, hb, hW.trans (hb.mono hW.size)⟩
    exact each_nil
  · refine behind_val rfl ?_
    refine behind_val rfl ?_
    refine behind_val rfl ?_
    refine behind_val rfl ?_
    refine behind_cons fun v10 => ?_
    refine behind_val rfl ?_
    refine behind_val rfl ?_
    refine behind_val rfl ?_
    refine behind_val rfl ?_
    refine behind_cons fun v15 => ?_
    refine behind_nil fun u2 hCu2 hFu2 => ?_
    obtain ⟨⟨_, g2, c2, rfl, hg2, ho2⟩, g3, c3, rfl, hg3, ho3⟩ := hFu2
    simp only [Act.put, List.setIfInBounds_toArray, List.set_cons_succ, List.set_cons_zero, List.drop_succ_cons, List.drop_zero]
    have HO2 := Lib.hid ho2
    have HO3 := Lib.hid ho3
    have HB2 := Lib.hid hCu2
    have hbd : ∀ (w : World), (Instr.build 194 #[(0, .slice (some ⟨g2, 0, none⟩) N c2), (1, .slice (some ⟨g3, 0, none⟩) n c3)]).run Tryz.prog w = .ok (.agg #[.slice (some ⟨g2, 0, none⟩) N c2, .slice (some ⟨g3, 0, none⟩) n c3, .slice none 0 0]) w := fun w => by kernel_rfl
    clear ho2 ho3 hCu2 x0 x1
    go_wp2_with fail
    go_ret
    have hz : (u2.alloc (.cells #[.slice (some ⟨g2, 0, none⟩) N c2, .slice (some ⟨g3, 0, none⟩) n c3, .slice none 0 0] 194)).heap.size = u2.heap.size + 1 := by simp
    have hbl := below_alloc u2 (.cells #[.slice (some ⟨g2, 0, none⟩) N c2, .slice (some ⟨g3, 0, none⟩) n c3, .slice none 0 0] 194)
    have q1 := HO2.out.ltA
    have q2 := HO3.out.ltA
    have q3 := HB1.out.size
    have q4 := HB2.out.size
    refine ⟨u2.heap.size, g2, c2, g3, c3, rfl, ⟨?_, ?_, (HO3.out.le (Nat.zero_le _)).below hbl, OwnC.nil_ _ _ _ _ _, fun x e => (nomatch e), .inl rfl, .inr (.inl rfl), .inr (.inr rfl), fun g e => (nomatch e), fun k hk => ?_, HPOS.out, HMP.out⟩, by omega, by omega, by omega, (HB1.out.trans (HB2.out.mono HB1.out.size)).trans (hbl.mono (by omega))⟩
    · rw [← HN.out]
      exact heap_alloc_new u2 _
    · rw [← HN.out]
      exact (HO2.out.le (Nat.zero_le _)).below hbl
    · rcases hk with rfl | rfl | rfl <;> omega
end
end Go.Proofs.YtimcdnbfdkpffaaGreat
