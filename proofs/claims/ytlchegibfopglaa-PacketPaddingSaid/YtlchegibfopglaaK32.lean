import Derived.Test.YtlchegibfopglaaK13
import Derived.Test.YtlchegibfopglaaK1
import Derived.Test.YtlchegibfopglaaK29
/- The document's answers for layer 5: Num, Lay. -/
namespace Go.Proofs.Ytlchegibfopglaa
set_option maxRecDepth 100000
open Go.RowKit
/-- Kept where another block alone grows. -/
theorem Own.grown {w w' : World} {base : Nat} {e : TypeId} {A : Option Addr} {n c : Nat} {f : Nat → Int} {row : Option Nat} (h : Own w base e A n c f) (hg : w.grownBy w' row) (hne : ∀ q, Value.ownBlock (.slice A n c) = some q → row ≠ some q) : Own w' base e A n c f := by
  refine ⟨h.1, ?_⟩
  rcases h.2 with hh | ⟨g, cap, cur, hv, hb, hh, r⟩
  · exact .inl hh
  · have hlt : g < w.heap.size := lt_heap hh
    have hq : Value.ownBlock (.slice A n c) = some g := by
      injection hv with h1 _ _
      subst h1
      rfl
    exact .inr ⟨g, cap, cur, hv, hb, (hg.block g hlt (fun e => hne g hq e.symm)).trans hh, r⟩
end Go.Proofs.Ytlchegibfopglaa
/- Layer 5: the memory of the document's readers. -/
namespace Go.Proofs.Ytlchegibfopglaa
set_option maxRecDepth 100000
open Go.RowKit
/-- Three blocks, and a fourth one like the third. -/
structure Box4 (w W : World) (s d : Nat → Int) (cs : Array Value) (t : TypeId) : Prop where
  box : Box3 w W s d cs t
  b3 : W.heap[w.heap.size + 1 + 1 + 1]? = some (.cells cs t (0, 0))
theorem Box4.step {w W W' : World} {s d : Nat → Int} {cs : Array Value} {t : TypeId} (h : Box4 w W s d cs t) (hb : Below W.heap.size W W') : Box4 w W' s d cs t :=
  ⟨h.box.step hb, (hb.block _ (lt_heap h.b3)).trans h.b3⟩
theorem Box4.keep {w W W' : World} {s d : Nat → Int} {cs : Array Value} {t : TypeId} (h : Box4 w W s d cs t) (hb : Below (w.heap.size + 1 + 1 + 1 + 1) W W') : Box4 w W' s d cs t :=
  ⟨h.box.keep (hb.mono (by omega)), (hb.block _ (by omega)).trans h.b3⟩
theorem Box4.size {w W : World} {s d : Nat → Int} {cs : Array Value} {t : TypeId} (h : Box4 w W s d cs t) : w.heap.size + 1 + 1 + 1 + 1 ≤ W.heap.size := lt_heap h.b3
theorem Box4.start (w : World) (s d : Nat → Int) (cs : Array Value) (t : TypeId) : Box4 w ((((w.alloc (.cells (arr16 s) 23)).alloc (.cells (arr16 d) 23)).alloc (.cells cs t)).alloc (.cells cs t)) s d cs t := by
  have h := Box3.start w s d cs t
  have e2 : (((w.alloc (Obj.cells (arr16 s) 23)).alloc (Obj.cells (arr16 d) 23)).alloc (.cells cs t)).heap.size = w.heap.size + 1 + 1 + 1 := by simp
  refine ⟨h.step (below_alloc _ _), ?_⟩
  rw [← e2]
  exact heap_alloc_new _ _
theorem Box4.row {w W : World} {s d : Nat → Int} {cs : Array Value} {t : TypeId} (h : Box4 w W s d cs t) : Box4 w (W.setRow (w.heap.size + 1 + 1 + 1) cs) s d cs t :=
  ⟨h.box.keep (below_setRow (Below.refl _ _) (Nat.le_refl _) _), setRow_heap _ _ _ cs _ _ h.b3⟩
/-- .. and a header in a variable. -/
structure Hd4 (w W : World) (s d : Nat → Int) (cs : Array Value) (t : TypeId) (y : Nat) (hs : Array Value) : Prop where
  box : Box4 w W s d cs t
  hd : W.heap[y]? = some (.cells hs t (0, 0))
  lo : w.heap.size + 1 + 1 + 1 + 1 ≤ y
theorem Hd4.step {w W W' : World} {s d : Nat → Int} {cs : Array Value} {t : TypeId} {y : Nat} {hs : Array Value} (h : Hd4 w W s d cs t y hs) (hb : Below W.heap.size W W') : Hd4 w W' s d cs t y hs :=
  ⟨h.box.step hb, (hb.block _ (lt_heap h.hd)).trans h.hd, h.lo⟩
theorem Hd4.set {w W : World} {s d : Nat → Int} {cs : Array Value} {t : TypeId} {y : Nat} {hs : Array Value} (h : Hd4 w W s d cs t y hs) (i : Nat) (v : Value) : Hd4 w (W.setCell ⟨y, i, none⟩ v) s d cs t y (hs.setIfInBounds i v) :=
  ⟨h.box.keep ((Below.refl _ _).setCell h.lo v), blk_set h.hd i v, h.lo⟩
theorem Hd4.new {w W : World} {s d : Nat → Int} {cs : Array Value} {t : TypeId} (h : Box4 w W s d cs t) (zs hs : Array Value) (y : Nat) (hy : y = W.heap.size) : Hd4 w ((W.alloc (.cells zs t)).setRow y hs) s d cs t y hs := by
  subst hy
  exact ⟨h.keep (below_setRow ((Below.refl _ _).alloc h.size _) h.size _), setRow_heap _ _ _ hs _ _ (heap_alloc_new W _), h.size⟩
end Go.Proofs.Ytlchegibfopglaa
/- The document's ReadTCP. -/
namespace Go.Proofs.Ytlchegibfopglaa
set_option maxRecDepth 100000
open Go.RowKit
set_option maxRecDepth 100000 in
set_option maxHeartbeats 4000000 in
theorem rreadT_any (v6 : Bool) (s d : Nat → Int) (hs : Byt s) (hd : Byt d) (A : Option Addr) (n c : Nat) (f : Nat → Int) (hf : Byt f) (hn : n ≤ 140737488355328) (hcap : n ≤ c) (hc' : c ≤ 9223372036854775807) (w : World) (hr : Rd w w.heap.size A n f) :
    Calls Try.prog 21 #[.bool v6, .agg (arr16 s), .agg (arr16 d), .slice A n c] w (ReadT 5 (tcpE (psq v6 s d 6 n) f n) f n w) := by
  have HR := Lib.hid hr
  have HF := Lib.hid hf
  have HSO := Lib.hid fun W hr => right_any v6 s d hs hd 6 (by omega) (by omega) A n c f hf (by omega) W hr
  clear hr hf hs hd
  generalize psq v6 s d 6 n = S at *
  obtain ⟨R, hR⟩ : ∃ R, R = tcpE S f n := ⟨_, rfl⟩
  rw [← hR]
  have HRE := Lib.hid hR
  clear hR
  obtain ⟨r, hr⟩ : ∃ r, r = rgt S f n := ⟨_, rfl⟩
  rw [← hr] at HSO
  have HRR := Lib.hid hr
  clear hr
  have HX0 := Lib.hid (Box4.start w s d tcpz 61)
  go_enter Try.func21, Try.ntmps21
  go_upto_if 17 with (first
    | (refine wpList_store_row rfl 61 (.tmp 11) (.tmp 14) rfl (w.heap.size + 1 + 1 + 1) tcpz rfl rfl 61 tcpz HX0.out.b3 (by kernel_rfl) rfl tcpz_one ?_))
  change Code.wp _ _ _ _ (((((w.alloc (.cells (arr16 s) 23)).alloc (.cells (arr16 d) 23)).alloc (.cells tcpz 61)).alloc (.cells tcpz 61)).setRow (w.heap.size + 1 + 1 + 1) tcpz)
  have HX1 := Lib.hid HX0.out.row
  clear HX0
  generalize ((((w.alloc (.cells (arr16 s) 23)).alloc (.cells (arr16 d) 23)).alloc (.cells tcpz 61)).alloc (.cells tcpz 61)).setRow (w.heap.size + 1 + 1 + 1) tcpz = u1 at *
  by_cases c0 : n < 20
  · have c0' : (n : Int) < 20 := by omega
    have hRe : R = 4 := HRE.out.trans (tcpE_0 c0)
    go_wp2_with (first
      | (refine wpList_load_row rfl 61 (.tmp 11) rfl (w.heap.size + 1 + 1 + 1) rfl 61 tcpz (0, 0) _ HX1.out.b3 Try.underlying61 rfl (by kernel_rfl) ?_)
      | (refine wpList_store_row rfl 61 (.tmp 8) (.tmp 18) rfl (w.heap.size + 1 + 1) tcpz rfl rfl 61 tcpz HX1.out.box.b2 (by kernel_rfl) rfl tcpz_one ?_))
    refine bodyPost_ret (v := .tuple #[.agg tcpz, .slice none 0 0, .int .i64 4]) (results_row2 Try.results21 _ _ (w.heap.size + 1 + 1) 61 tcpz (0, 0) _ rfl (setRow_heap _ (w.heap.size + 1 + 1) _ tcpz _ _ HX1.out.box.b2) Try.underlying61 rfl (by kernel_rfl)) rfl ?_
    have hRne : ¬ R = 0 := by omega
    exact .inl ⟨by first | exact hRne | omega | decide, by first | rfl | (rw [hRe] <;> rfl), below_setRow HX1.out.box.below (by omega) _⟩
  · have N0 : Hid (¬ n < 20) := c0
    have c0' : (20 : Int) ≤ (n : Int) := by omega
    rcases HR.out with h0 | ⟨b, off, rfl, hbb, hcell⟩
    · omega
    have HC := Lib.hid hcell
    clear hcell
    have p12 := HF.out 12
    obtain ⟨K, hK⟩ : ∃ K, K = (f 12 / 16).toNat := ⟨_, rfl⟩
    have hK' : (f 12).tdiv 16 = (K : Int) := by rw [Int.tdiv_eq_ediv_of_nonneg p12.1]; omega
    have hK15 : K ≤ 15 := by omega
    have hw0 : IntKind.u8.wrap (K : Int) = (K : Int) := by rw [IntKind.wrap_u8']; omega
    have hw1 : IntKind.i64.wrap (K : Int) = (K : Int) := by rw [IntKind.wrap_i64]; omega
    have hlt5 : f 12 / 16 < 5 ↔ K < 5 := by omega
    have HKK := Lib.hid hK
    have H5 := Lib.hid hlt5
    have x12 := (HX1.out.box.below.cell (p := ⟨b, off + 12, none⟩) hbb).trans (HC.out 12 (by omega))
    have i12 : (12 : Int) < (n : Int) := by omega
    clear hK p12 hlt5
    go_upto_if 25 with fail
    clear x12 i12 hK' hw0 hw1
    by_cases c1 : K < 5
    · have c1' : (K : Int) < 5 := by omega
      have hRe : R = 5 := HRE.out.trans (tcpE_1 N0.out (H5.out.2 c1))
      go_wp2_with (first
        | (refine wpList_load_row rfl 61 (.tmp 11) rfl (w.heap.size + 1 + 1 + 1) rfl 61 tcpz (0, 0) _ HX1.out.b3 Try.underlying61 rfl (by kernel_rfl) ?_)
        | (refine wpList_store_row rfl 61 (.tmp 8) (.tmp 26) rfl (w.heap.size + 1 + 1) tcpz rfl rfl 61 tcpz HX1.out.box.b2 (by kernel_rfl) rfl tcpz_one ?_))
      refine bodyPost_ret (v := .tuple #[.agg tcpz, .slice none 0 0, .int .i64 5]) (results_row2 Try.results21 _ _ (w.heap.size + 1 + 1) 61 tcpz (0, 0) _ rfl (setRow_heap _ (w.heap.size + 1 + 1) _ tcpz _ _ HX1.out.box.b2) Try.underlying61 rfl (by kernel_rfl)) rfl ?_
      have hRne : ¬ R = 0 := by omega
      exact .inl ⟨by first | exact hRne | omega | decide, by first | rfl | (rw [hRe] <;> rfl), below_setRow HX1.out.box.below (by omega) _⟩
    · have c1' : (5 : Int) ≤ (K : Int) := by omega
      have N1 : Hid (5 ≤ f 12 / 16) := Lib.hid (Int.not_lt.1 fun h => c1 (H5.out.1 h))
      clear H5
      have hK4 : IntKind.i64.wrap (4 * (K : Int)) = 4 * (K : Int) := by rw [IntKind.wrap_i64]; omega
      go_upto_if 31 with fail
      clear hK4
      by_cases c2 : n < 4 * K
      · have c2' : (n : Int) < 4 * (K : Int) := by omega
        have hRe : R = 4 := HRE.out.trans (tcpE_2 N0.out N1.out (by rw [← HKK.out]; exact c2))
        go_wp2_with (first
          | (refine wpList_load_row rfl 61 (.tmp 11) rfl (w.heap.size + 1 + 1 + 1) rfl 61 tcpz (0, 0) _ HX1.out.b3 Try.underlying61 rfl (by kernel_rfl) ?_)
          | (refine wpList_store_row rfl 61 (.tmp 8) (.tmp 32) rfl (w.heap.size + 1 + 1) tcpz rfl rfl 61 tcpz HX1.out.box.b2 (by kernel_rfl) rfl tcpz_one ?_))
        refine bodyPost_ret (v := .tuple #[.agg tcpz, .slice none 0 0, .int .i64 4]) (results_row2 Try.results21 _ _ (w.heap.size + 1 + 1) 61 tcpz (0, 0) _ rfl (setRow_heap _ (w.heap.size + 1 + 1) _ tcpz _ _ HX1.out.box.b2) Try.underlying61 rfl (by kernel_rfl)) rfl ?_
        have hRne : ¬ R = 0 := by omega
        exact .inl ⟨by first | exact hRne | omega | decide, by first | rfl | (rw [hRe] <;> rfl), below_setRow HX1.out.box.below (by omega) _⟩
      · have N2 : Hid (¬ n < 4 * (f 12 / 16).toNat) := by rw [← HKK.out]; exact c2
        have c2' : 4 * (K : Int) ≤ (n : Int) := by omega
        have hHn : 4 * K ≤ n := by omega
        go_upto_if 38 with (first
          | (refine wpList_load_roww rfl 23 (.tmp 5) rfl w.heap.size rfl 23 (arr16 s) (0, 0) _ HX1.out.box.b0 Try.underlying23 rfl (by kernel_rfl) ?_)
          | (refine wpList_load_roww rfl 23 (.tmp 6) rfl (w.heap.size + 1) rfl 23 (arr16 d) (0, 0) _ HX1.out.box.b1 Try.underlying23 rfl (by kernel_rfl) ?_)
          | (go_at_call 32; refine (HSO.out _ ((HR.out.keep HX1.out.box.below).more HX1.out.box.below.size)).mono ?_; rintro e u2 ⟨rfl, hb2⟩; have HX2 := Lib.hid (HX1.out.step hb2); clear hb2))
        clear HSO HX1
        by_cases c3 : r = 0
        · have c3' : (r != 0) = false := by simp [c3]
          have N3 : rgt S f n = 0 := HRR.out.symm.trans c3
          have hRe : R = 0 := HRE.out.trans (tcpE_4 N0.out N1.out N2.out N3)
          subst c3
          clear N3 HRR
          go_upto_region 11 with fail
          have HN0 : Hid (∀ W B, Rd W B (some ⟨b, off, none⟩) n f → Calls Try.prog 30 #[.slice (some ⟨b, off, none⟩) n c, .int .i64 0, .int .i64 2] W fun e w' => e = .returned (.int .u32 (w2 f 0)) ∧ W = w') := Lib.hid fun W B hr => by
            have h := rnum_any (some ⟨b, off, none⟩) n c 0 2 f HF.out (by omega) (by omega) (by omega) W B hr
            rw [numk_2] at h
            exact h
          have HN2 : Hid (∀ W B, Rd W B (some ⟨b, off, none⟩) n f → Calls Try.prog 30 #[.slice (some ⟨b, off, none⟩) n c, .int .i64 2, .int .i64 2] W fun e w' => e = .returned (.int .u32 (w2 f 2)) ∧ W = w') := Lib.hid fun W B hr => by
            have h := rnum_any (some ⟨b, off, none⟩) n c 2 2 f HF.out (by omega) (by omega) (by omega) W B hr
            rw [numk_2] at h
            exact h
          have HN4 : Hid (∀ W B, Rd W B (some ⟨b, off, none⟩) n f → Calls Try.prog 30 #[.slice (some ⟨b, off, none⟩) n c, .int .i64 4, .int .i64 4] W fun e w' => e = .returned (.int .u32 (w4 f 4)) ∧ W = w') := Lib.hid fun W B hr => by
            have h := rnum_any (some ⟨b, off, none⟩) n c 4 4 f HF.out (by omega) (by omega) (by omega) W B hr
            rw [numk_4] at h
            exact h
          have HN8 : Hid (∀ W B, Rd W B (some ⟨b, off, none⟩) n f → Calls Try.prog 30 #[.slice (some ⟨b, off, none⟩) n c, .int .i64 8, .int .i64 4] W fun e w' => e = .returned (.int .u32 (w4 f 8)) ∧ W = w') := Lib.hid fun W B hr => by
            have h := rnum_any (some ⟨b, off, none⟩) n c 8 4 f HF.out (by omega) (by omega) (by omega) W B hr
            rw [numk_4] at h
            exact h
          have HN14 : Hid (∀ W B, Rd W B (some ⟨b, off, none⟩) n f → Calls Try.prog 30 #[.slice (some ⟨b, off, none⟩) n c, .int .i64 14, .int .i64 2] W fun e w' => e = .returned (.int .u32 (w2 f 14)) ∧ W = w') := Lib.hid fun W B hr => by
            have h := rnum_any (some ⟨b, off, none⟩) n c 14 2 f HF.out (by omega) (by omega) (by omega) W B hr
            rw [numk_2] at h
            exact h
          have HN18 : Hid (∀ W B, Rd W B (some ⟨b, off, none⟩) n f → Calls Try.prog 30 #[.slice (some ⟨b, off, none⟩) n c, .int .i64 18, .int .i64 2] W fun e w' => e = .returned (.int .u32 (w2 f 18)) ∧ W = w') := Lib.hid fun W B hr => by
            have h := rnum_any (some ⟨b, off, none⟩) n c 18 2 f HF.out (by omega) (by omega) (by omega) W B hr
            rw [numk_2] at h
            exact h
          have HRd4 : Hid (Rd u2 w.heap.size (some ⟨b, off, none⟩) n f) := .inr ⟨b, off, rfl, hbb, fun k hk => (HX2.out.box.below.cell (p := ⟨b, off + k, none⟩) hbb).trans (HC.out k hk)⟩
          have z0 : IntKind.u16.wrap (w2 f 0) = w2 f 0 := by have := w2_bd HF.out 0; rw [IntKind.wrap_u16]; omega
          have z2 : IntKind.u16.wrap (w2 f 2) = w2 f 2 := by have := w2_bd HF.out 2; rw [IntKind.wrap_u16]; omega
          have HQ : Hid ((u2.alloc (.cells tcpz 61)).heap[u2.heap.size]? = some (.cells tcpz 61 (0, 0))) := heap_alloc_new u2 _
          go_wp2_with fail
          go_at_call 30
          refine (HN0.out _ _ HRd4.out).mono ?_
          rintro e w' ⟨rfl, rfl⟩
          go_wp2_with fail
          go_at_call 30
          refine (HN2.out _ _ HRd4.out).mono ?_
          rintro e w' ⟨rfl, rfl⟩
          go_wp2_with fail
          go_at_call 30
          refine (HN4.out _ _ HRd4.out).mono ?_
          rintro e w' ⟨rfl, rfl⟩
          go_wp2_with fail
          go_at_call 30
          refine (HN8.out _ _ HRd4.out).mono ?_
          rintro e w' ⟨rfl, rfl⟩
          go_upto_region 12 with (first
            | (refine wpList_store_row rfl 61 (.tmp 13) (.tmp 50) rfl u2.heap.size (tcpc (w2 f 0) (w2 f 2) (w4 f 4) (w4 f 8) 0 0 0 0 (.slice none 0 0)) rfl rfl 61 tcpz HQ.out (by kernel_rfl) rfl (tcp_one ..) ?_))
          change Code.wp _ _ _ _ ((u2.alloc (.cells tcpz 61)).setRow u2.heap.size (tcpc (w2 f 0) (w2 f 2) (w4 f 4) (w4 f 8) 0 0 0 0 (.slice none 0 0)))
          obtain ⟨y, hy⟩ : ∃ y, y = u2.heap.size := ⟨_, rfl⟩
          have HD5 := Lib.hid (Hd4.new HX2.out tcpz (tcpc (w2 f 0) (w2 f 2) (w4 f 4) (w4 f 8) 0 0 0 0 (.slice none 0 0)) y hy)
          rw [← hy]
          clear hy z0 z2 HQ HRd4 HN0 HN2 HN4 HN8 HX2
          generalize (u2.alloc (.cells tcpz 61)).setRow y (tcpc (w2 f 0) (w2 f 2) (w4 f 4) (w4 f 8) 0 0 0 0 (.slice none 0 0)) = u5 at *
          have HX5c : Hid (∀ k, k < n → u5.cell? ⟨b, off + k, none⟩ = some (.int .u8 (f k))) := fun k hk => (HD5.out.box.box.below.cell (p := ⟨b, off + k, none⟩) hbb).trans (HC.out k hk)
          have HRd5 : Hid (Rd u5 w.heap.size (some ⟨b, off, none⟩) n f) := .inr ⟨b, off, rfl, hbb, HX5c.out⟩
          have x12 := HX5c.out 12 (by omega)
          have x4 : u5.cell? ⟨y, 4, none⟩ = some (.int .u8 0) := blk_cell HD5.out.hd 4
          have y4 := blk_free HD5.out.hd 4
          have i12 : (12 : Int) < (n : Int) := by omega
          have t12 : (f 12).tmod 16 = f 12 % 16 := Int.tmod_eq_emod_of_nonneg (HF.out 12).1
          go_upto_region 13 with fail
          have HD6 : Hid (Hd4 w (u5.setCell ⟨y, 4, none⟩ (.int .u8 (f 12 % 16))) s d tcpz 61 y (tcpc (w2 f 0) (w2 f 2) (w4 f 4) (w4 f 8) (f 12 % 16) 0 0 0 (.slice none 0 0))) := HD5.out.set 4 _
          clear x12 x4 y4 i12 t12 HD5 HX5c HRd5
          generalize u5.setCell ⟨y, 4, none⟩ (.int .u8 (f 12 % 16)) = u6 at *
          have HX6c : Hid (∀ k, k < n → u6.cell? ⟨b, off + k, none⟩ = some (.int .u8 (f k))) := fun k hk => (HD6.out.box.box.below.cell (p := ⟨b, off + k, none⟩) hbb).trans (HC.out k hk)
          have HRd6 : Hid (Rd u6 w.heap.size (some ⟨b, off, none⟩) n f) := .inr ⟨b, off, rfl, hbb, HX6c.out⟩
          have x13 := HX6c.out 13 (by omega)
          have x5 : u6.cell? ⟨y, 5, none⟩ = some (.int .u8 0) := blk_cell HD6.out.hd 5
          have y5 := blk_free HD6.out.hd 5
          have i13 : (13 : Int) < (n : Int) := by omega
          go_upto_region 14 with fail
          have HD7 : Hid (Hd4 w (u6.setCell ⟨y, 5, none⟩ (.int .u8 (f 13))) s d tcpz 61 y (tcpc (w2 f 0) (w2 f 2) (w4 f 4) (w4 f 8) (f 12 % 16) (f 13) 0 0 (.slice none 0 0))) := HD6.out.set 5 _
          clear x13 x5 y5 i13 HD6 HX6c HRd6
          generalize u6.setCell ⟨y, 5, none⟩ (.int .u8 (f 13)) = u7 at *
          have HX7c : Hid (∀ k, k < n → u7.cell? ⟨b, off + k, none⟩ = some (.int .u8 (f k))) := fun k hk => (HD7.out.box.box.below.cell (p := ⟨b, off + k, none⟩) hbb).trans (HC.out k hk)
          have HRd7 : Hid (Rd u7 w.heap.size (some ⟨b, off, none⟩) n f) := .inr ⟨b, off, rfl, hbb, HX7c.out⟩
          have x6 : u7.cell? ⟨y, 6, none⟩ = some (.int .u16 0) := blk_cell HD7.out.hd 6
          have y6 := blk_free HD7.out.hd 6
          have z14 : IntKind.u16.wrap (w2 f 14) = w2 f 14 := by have := w2_bd HF.out 14; rw [IntKind.wrap_u16]; omega
          go_wp2_with fail
          go_at_call 30
          refine (HN14.out _ _ HRd7.out).mono ?_
          rintro e w' ⟨rfl, rfl⟩
          go_upto_region 15 with fail
          have HD8 : Hid (Hd4 w (u7.setCell ⟨y, 6, none⟩ (.int .u16 (w2 f 14))) s d tcpz 61 y (tcpc (w2 f 0) (w2 f 2) (w4 f 4) (w4 f 8) (f 12 % 16) (f 13) (w2 f 14) 0 (.slice none 0 0))) := HD7.out.set 6 _
          clear x6 y6 z14 HD7 HX7c HRd7 HN14
          generalize u7.setCell ⟨y, 6, none⟩ (.int .u16 (w2 f 14)) = u8 at *
          have HX8c : Hid (∀ k, k < n → u8.cell? ⟨b, off + k, none⟩ = some (.int .u8 (f k))) := fun k hk => (HD8.out.box.box.below.cell (p := ⟨b, off + k, none⟩) hbb).trans (HC.out k hk)
          have HRd8 : Hid (Rd u8 w.heap.size (some ⟨b, off, none⟩) n f) := .inr ⟨b, off, rfl, hbb, HX8c.out⟩
          have x7 : u8.cell? ⟨y, 7, none⟩ = some (.int .u16 0) := blk_cell HD8.out.hd 7
          have y7 := blk_free HD8.out.hd 7
          have z18 : IntKind.u16.wrap (w2 f 18) = w2 f 18 := by have := w2_bd HF.out 18; rw [IntKind.wrap_u16]; omega
          go_wp2_with fail
          go_at_call 30
          refine (HN18.out _ _ HRd8.out).mono ?_
          rintro e w' ⟨rfl, rfl⟩
          go_upto_region 16 with fail
          have HD9 : Hid (Hd4 w (u8.setCell ⟨y, 7, none⟩ (.int .u16 (w2 f 18))) s d tcpz 61 y (tcpc (w2 f 0) (w2 f 2) (w4 f 4) (w4 f 8) (f 12 % 16) (f 13) (w2 f 14) (w2 f 18) (.slice none 0 0))) := HD8.out.set 7 _
          clear x7 y7 z18 HD8 HX8c HRd8 HN18
          generalize u8.setCell ⟨y, 7, none⟩ (.int .u16 (w2 f 18)) = u9 at *
          have HX9c : Hid (∀ k, k < n → u9.cell? ⟨b, off + k, none⟩ = some (.int .u8 (f k))) := fun k hk => (HD9.out.box.box.below.cell (p := ⟨b, off + k, none⟩) hbb).trans (HC.out k hk)
          have HRd9 : Hid (Rd u9 w.heap.size (some ⟨b, off, none⟩) n f) := .inr ⟨b, off, rfl, hbb, HX9c.out⟩
          obtain ⟨D1, hsD1, hrD1⟩ := slice_both b off n c 20 (4 * K) (by omega) (by omega) hcap hc'
          have hsD1' : ∀ W, (Instr.sliceAt 22 (.slice (some ⟨b, off, none⟩) n c) (some (.int .i64 20)) (some (.int .i64 (4 * (K : Int)))) none).run Try.prog W = .ok (.slice D1 (4 * K - 20) (c - 20)) W := fun W => by
            have h := hsD1 W
            rw [show ((4 * K : Nat) : Int) = 4 * (K : Int) by omega] at h
            exact h
          have HD1 := Lib.hid hrD1
          obtain ⟨D2, hsD2, hrD2⟩ := slice_any (some ⟨b, off, none⟩) n c (4 * K) (by omega) hcap hc'
          have hsD2' : ∀ W, (Instr.sliceAt 22 (.slice (some ⟨b, off, none⟩) n c) (some (.int .i64 (4 * (K : Int)))) none none).run Try.prog W = .ok (.slice D2 (n - 4 * K) (c - 4 * K)) W := fun W => by
            have h := hsD2 W
            rw [show ((4 * K : Nat) : Int) = 4 * (K : Int) by omega] at h
            exact h
          have HD2 := Lib.hid hrD2
          clear hrD1 hrD2 hsD1 hsD2
          obtain ⟨i0, hi0, hz0, hz1, hz2⟩ := info_parts Try.info5
          have HI0 := Lib.hid hi0
          have HI1 := Lib.hid hz0
          have HI2 := Lib.hid hz1
          have HI3 := Lib.hid hz2
          clear hi0 hz0 hz1 hz2
          have hK4 : IntKind.i64.wrap (4 * (K : Int)) = 4 * (K : Int) := by rw [IntKind.wrap_i64]; omega
          go_upto_region 17 with (first
            | (at_builtin
               refine wpList_append_rd rfl (.tmp 68) (.tmp 72) _ rfl u9.heap.size 5 i0 Try.underlying22 HI0.out HI1.out HI2.out HI3.out (n := 0) (f := f) rfl (Own.fresh _ _ _ (by first | rfl | simp) (by first | exact Nat.le_refl _ | exact alloc_le _ _) 5 f) rfl (HD1.out _ _ f (HRd9.out.keep (below_alloc _ _ |>.mono HD9.out.box.box.below.size))) (by omega) (alloc_le _ _) ?_
               intro O co u10 hown1 hg1 _
               have HB10 : Hid (Below u9.heap.size u9 u10) := (below_alloc _ _).grown hg1 (alloc_le _ _) (by intro k hk; simp [Value.ownBlock] at hk; omega)
               have HO10 : Hid (Own u10 u9.heap.size 5 O (4 * K - 20) co (fun k => f (20 + k))) := by
                 have e := hown1
                 rw [cat_zero, Nat.zero_add] at e
                 exact e
               have HD10 := Lib.hid (HD9.out.step HB10.out)
               rw [Nat.zero_add]
               have x8 : u10.cell? ⟨y, 8, none⟩ = some (.slice none 0 0) := blk_cell HD10.out.hd 8
               have y8 := blk_free HD10.out.hd 8
               clear hown1 hg1))
          have HD11 : Hid (Hd4 w (u10.setCell ⟨y, 8, none⟩ (.slice O (4 * K - 20) co)) s d tcpz 61 y (tcpc (w2 f 0) (w2 f 2) (w4 f 4) (w4 f 8) (f 12 % 16) (f 13) (w2 f 14) (w2 f 18) (.slice O (4 * K - 20) co))) := HD10.out.set 8 _
          have HO11 : Hid (Own (u10.setCell ⟨y, 8, none⟩ (.slice O (4 * K - 20) co)) w.heap.size 5 O (4 * K - 20) co (fun k => f (20 + k))) := (HO10.out.far (p := ⟨y, 8, none⟩) (lt_heap HD9.out.hd) _).le HD9.out.box.box.below.size
          clear x8 y8 HD10 HO10 HB10 HD9 HX9c HRd9
          generalize u10.setCell ⟨y, 8, none⟩ (.slice O (4 * K - 20) co) = u11 at *
          have HX11c : Hid (∀ k, k < n → u11.cell? ⟨b, off + k, none⟩ = some (.int .u8 (f k))) := fun k hk => (HD11.out.box.box.below.cell (p := ⟨b, off + k, none⟩) hbb).trans (HC.out k hk)
          have HRd11 : Hid (Rd u11 w.heap.size (some ⟨b, off, none⟩) n f) := .inr ⟨b, off, rfl, hbb, HX11c.out⟩
          have hb11 : b < u11.heap.size := Nat.lt_of_lt_of_le hbb HD11.out.box.box.below.size
          refine wp_region_grow (C := fun W => Below u11.heap.size u11 W) 7 82 [val (.agg (tcpc (w2 f 0) (w2 f 2) (w4 f 4) (w4 f 8) (f 12 % 16) (f 13) (w2 f 14) (w2 f 18) (.slice O (4 * K - 20) co))), mkF u11, val (.slice (some ⟨b, off, none⟩) n c), val (.int .i64 (K : Int)), val (.int .i64 (4 * (K : Int))), val (.slice D2 (n - 4 * K) (c - 4 * K)), ownF u11 (n - 4 * K) (fun k => f (4 * K + k))] (by kernel_rfl) rfl (by kernel_rfl) rfl ⟨stb_val _, stb_mk _, stb_val _, stb_val _, stb_val _, stb_val _, stb_own _ _ _, trivial⟩ (Below.refl _ _).drew ?_ ?_
          · refine each_cons ?_ ?_
            · intro a W hW hd
              have h13 : a.tmps[13]?.getD undef = .pointer (some ⟨y, 0, none⟩) := slot_eq (hd 13 (by decide))
              refine grows_value (.agg (tcpc (w2 f 0) (w2 f 2) (w4 f 4) (w4 f 8) (f 12 % 16) (f 13) (w2 f 14) (w2 f 18) (.slice O (4 * K - 20) co))) hW (?_ : _ = _) rfl
              clear hd
              simp only [execOp, Act.eval, Array.getD_eq_getD_getElem?, h13, Instr.loadAt, Instr.sureAddr, Sem.run_bind, Sem.run_pure, Result.andThen_ok, run_loadVar_row W y 61 61 (tcpc (w2 f 0) (w2 f 2) (w4 f 4) (w4 f 8) (f 12 % 16) (f 13) (w2 f 14) (w2 f 18) (.slice O (4 * K - 20) co)) (0, 0) _ ((hW.block _ (lt_heap HD11.out.hd)).trans HD11.out.hd) Try.underlying61 rfl (by kernel_rfl)]
            refine each_cons ?_ ?_
            · intro a W hW hd
              refine grows_new (.slice (some ⟨W.heap.size, 0, none⟩) 0 0) (w' := W.alloc (.cells #[] 5)) (?_ : _ = _) ⟨_, rfl, Own.fresh W _ _ rfl hW.size _ _⟩ (below_alloc _ _) (hW.alloc hW.size _)
              clear hd
              go_simp
            refine each_cons ?_ ?_
            · intro a W hW hd
              have h3 : a.tmps[3]?.getD undef = .slice (some ⟨b, off, none⟩) n c := slot_eq (hd 3 (by decide))
              exact grows_value _ hW (by simp [execOp, Act.eval, h3]) rfl
            refine each_cons ?_ ?_
            · intro a W hW hd
              have h12 : a.tmps[12]?.getD undef = .int .i64 (K : Int) := slot_eq (hd 12 (by decide))
              exact grows_value _ hW (by simp [execOp, Act.eval, h12]) rfl
            refine each_cons ?_ ?_
            · intro a W hW hd
              have h78 : a.tmps[78]?.getD undef = .int .i64 (K : Int) := slot_eq (hd 78 (by decide))
              refine grows_value _ hW (?_ : _ = _) rfl
              clear hd
              go_simp
            refine each_cons ?_ ?_
            · intro a W hW hd
              have h77 : a.tmps[77]?.getD undef = .slice (some ⟨b, off, none⟩) n c := slot_eq (hd 77 (by decide))
              have h79 : a.tmps[79]?.getD undef = .int .i64 (4 * (K : Int)) := slot_eq (hd 79 (by decide))
              refine grows_value _ hW (?_ : _ = _) rfl
              clear hd
              go_simp
            refine each_cons ?_ ?_
            · intro a W hW hd
              have h80 : a.tmps[80]?.getD undef = .slice D2 (n - 4 * K) (c - 4 * K) := slot_eq (hd 80 (by decide))
              obtain ⟨z, h76, ho⟩ := hd 76 (by decide)
              have h76' : a.tmps[76]?.getD undef = .slice (some ⟨z, 0, none⟩) 0 0 := slot_eq h76
              obtain ⟨A2, c2, w', hrun, hown, hb⟩ := run_append_fresh (P := Try.prog) u11.heap.size 22 22 5 i0 Try.underlying22 HI0.out HI1.out HI2.out HI3.out ⟨z, 0, none⟩ ho (c' := c - 4 * K) (HD2.out W W.heap.size f (.inr ⟨b, off, rfl, Nat.lt_of_lt_of_le hb11 hW.size, fun k hk => (hW.cell (p := ⟨b, off + k, none⟩) hb11).trans (HX11c.out k hk)⟩)) (by omega) hW.size
              refine grows_new (.slice A2 (n - 4 * K) c2) (w' := w') ?_ ⟨A2, c2, rfl, hown⟩ hb (hW.trans (hb.mono hW.size))
              clear hd
              simp only [execOp, resolve, invoke, builtin, Sem.run_bind, Sem.run_pure, Result.andThen_ok, List.map_toArray, List.map_cons, List.map_nil, Act.eval, Array.getD_eq_getD_getElem?, h76', h80, hrun]
            exact each_nil
          · refine behind_val rfl ?_
            refine behind_cons fun v76 => ?_
            refine behind_val rfl ?_
            refine behind_val rfl ?_
            refine behind_val rfl ?_
            refine behind_val rfl ?_
            refine behind_cons fun v81 => ?_
            refine behind_nil fun u13 hCu13 hFu13 => ?_
            obtain ⟨⟨_, _⟩, ⟨P, cp, rfl, hP⟩⟩ := hFu13
            have HP := Lib.hid hP
            have HD13 := Lib.hid (HD11.out.step hCu13)
            have HO13 := Lib.hid (HO11.out.below hCu13)
            clear hP hCu13
            simp only [Act.put, List.setIfInBounds_toArray, List.set_cons_succ, List.set_cons_zero, List.drop_succ_cons, List.drop_zero]
            refine wpList_store_row rfl 61 (.tmp 8) (.tmp 75) rfl (w.heap.size + 1 + 1) (tcpc (w2 f 0) (w2 f 2) (w4 f 4) (w4 f 8) (f 12 % 16) (f 13) (w2 f 14) (w2 f 18) (.slice O (4 * K - 20) co)) rfl rfl 61 tcpz HD13.out.box.box.b2 (by kernel_rfl) rfl (tcp_one ..) ?_
            simp only [Act.put]
            go_wp2_with fail
            refine bodyPost_ret (v := .tuple #[.agg (tcpc (w2 f 0) (w2 f 2) (w4 f 4) (w4 f 8) (f 12 % 16) (f 13) (w2 f 14) (w2 f 18) (.slice O (4 * K - 20) co)), .slice P (n - 4 * K) cp, .int .i64 0]) (results_row2 Try.results21 _ _ (w.heap.size + 1 + 1) 61 (tcpc (w2 f 0) (w2 f 2) (w4 f 4) (w4 f 8) (f 12 % 16) (f 13) (w2 f 14) (w2 f 18) (.slice O (4 * K - 20) co)) (0, 0) _ rfl (setRow_heap _ (w.heap.size + 1 + 1) _ (tcpc (w2 f 0) (w2 f 2) (w4 f 4) (w4 f 8) (f 12 % 16) (f 13) (w2 f 14) (w2 f 18) (.slice O (4 * K - 20) co)) _ _ HD13.out.box.box.b2) Try.underlying61 rfl (by kernel_rfl)) rfl ?_
            refine .inr ⟨by first | rfl | exact hRe, ?_⟩
            have eO : tcpO f = 4 * K - 20 := by unfold tcpO; rw [← HKK.out]
            have eH : 20 + (4 * K - 20) = 4 * K := by omega
            unfold ReadTO
            rw [eO, eH]
            exact ⟨O, co, P, cp, rfl, HO13.out.other HD13.out.box.box.b2 (by decide) (fun k hk => setRow_other _ (w.heap.size + 1 + 1) k _ hk), (HP.out.le HD11.out.box.box.below.size).other HD13.out.box.box.b2 (by decide) (fun k hk => setRow_other _ (w.heap.size + 1 + 1) k _ hk), below_setRow HD13.out.box.box.below (by omega) _⟩
        · have c3' : (r != 0) = true := by simpa using c3
          have hRe : R = 6 := HRE.out.trans (tcpE_3 N0.out N1.out N2.out (by rw [← HRR.out]; exact c3))
          go_wp2_with (first
            | (refine wpList_load_row rfl 61 (.tmp 11) rfl (w.heap.size + 1 + 1 + 1) rfl 61 tcpz (0, 0) _ HX2.out.b3 Try.underlying61 rfl (by kernel_rfl) ?_)
            | (refine wpList_store_row rfl 61 (.tmp 8) (.tmp 39) rfl (w.heap.size + 1 + 1) tcpz rfl rfl 61 tcpz HX2.out.box.b2 (by kernel_rfl) rfl tcpz_one ?_))
          refine bodyPost_ret (v := .tuple #[.agg tcpz, .slice none 0 0, .int .i64 6]) (results_row2 Try.results21 _ _ (w.heap.size + 1 + 1) 61 tcpz (0, 0) _ rfl (setRow_heap _ (w.heap.size + 1 + 1) _ tcpz _ _ HX2.out.box.b2) Try.underlying61 rfl (by kernel_rfl)) rfl ?_
          have hRne : ¬ R = 0 := by omega
          exact .inl ⟨by first | exact hRne | omega | decide, by first | rfl | (rw [hRe] <;> rfl), below_setRow HX2.out.box.below (by omega) _⟩
end Go.Proofs.Ytlchegibfopglaa
