/- Stage 18: all slots as a list, as far as they are wanted. -/
import Derived.Test.YtdeghjhlbhpopaaPqi
import Derived.Test.YtdeghjhlbhpopaaRnd
namespace Go.Proofs.Ytdeghjhlbhpopaa
set_option maxRecDepth 100000
open Go.RowKit Go.Shelf
attribute [local go_sem] Oper.semAt_some
theorem Try.infoIQ : (Try.prog.info? 3).map (fun i => (i.zero, i.size, i.bytes)) = some (some (.int .i64 0), 1, 8) := by kernel_rfl
/-- Numbers as cells. -/
def nQ (l : List Nat) (k : Nat) : Value := .int .i64 ((l[k]?.getD 0 : Nat) : Int)
theorem nQ_app (l : List Nat) (x k : Nat) (hk : k < l.length + 1) : nQ (l ++ [x]) k = catV l.length (nQ l) (fun _ => .int .i64 (x : Int)) k := by
  unfold catV nQ
  split
  · rename_i h
    rw [List.getElem?_append_left h]
  · rw [List.getElem?_append_right (by omega), show k - l.length = 0 by omega]
    rfl
theorem rdc_oneQ (W : World) (e : TypeId) (v : Value) : RdC (W.alloc (.cells #[v] e)) (W.alloc (.cells #[v] e)).heap.size (some ⟨W.heap.size, 0, none⟩) 1 (fun _ => v) := .inr ⟨W.heap.size, 0, rfl, by simp, fun k hk => by
  obtain rfl : k = 0 := by omega
  exact cell_of_row _ W.heap.size 0 _ e (0, 0) (heap_alloc_new W _)⟩
/-- A list of one's own in memory, from B on. -/
def RowQ (B : Nat) (l : List Nat) (A : Option Addr) (c : Nat) (W : World) : Prop := OwnC W B 3 1 A l.length c (nQ l) ∧ (l = [] → A = none)
theorem RowQ.keep {B : Nat} {l : List Nat} {A : Option Addr} {c : Nat} {W W' : World} (h : RowQ B l A c W) (hk : ∀ g, g < W.heap.size → B ≤ g → (∃ cs t fr, W.heap[g]? = some (.cells cs t fr)) → W'.heap[g]? = W.heap[g]?) : RowQ B l A c W' := by
  refine ⟨h.1.blockAny (fun g hn hA => ?_) fun hn => h.2 (List.length_eq_zero_iff.1 hn), h.2⟩
  obtain ⟨g', e, hb, hl, hc, _⟩ := h.1.lies hn
  rw [hA] at e
  injection e with e
  injection e with e
  subst e
  exact hk g hl hb (cells_of_cell (hc 0 (by omega)))
theorem kept_oldQ {R : Nat → Prop} {v W W' : World} (h : Kept R v W) (hk : Kept (fun k => v.heap.size ≤ k) W W') : Kept R v W' := h.trans hk fun j hj q => absurd hj (Nat.not_lt.2 q)
theorem kept_belowQ {n : Nat} {A B : World} (h : Below n A B) : Kept (fun k => n ≤ k) A B := ⟨h.os, h.tape, h.output, h.size, fun k _ hn => h.block k (Nat.not_le.1 hn)⟩
theorem RowQ.own {B : Nat} {l : List Nat} {A : Option Addr} {c : Nat} {W W' : World} {row : Option Nat} (h : RowQ B l A c W) (hg : W.grownBy W' row) (hr : ∀ r, row = some r → ∃ o : Obj, W.heap[r]? = some o ∧ o.isCells = false) : RowQ B l A c W' :=
  h.keep fun g hl _ ⟨cs, t, fr, hq⟩ => hg.block g hl fun e => by
    obtain ⟨o, ho, hc⟩ := hr g e.symm
    rw [hq] at ho
    injection ho with ho
    subst ho
    cases hc
theorem rowQ_end {B B' : Nat} {l : List Nat} {A : Option Addr} {c D : Nat} {W : World} {o' : Obj} (h : RowQ B l A c W) (hB : B' ≤ B) (hD : W.heap[D]? = some (.deferred (some []))) : RowQ B' l A c (W.putObj D o') := by
  have h2 := h.keep (W' := W.putObj D o') fun g _ _ ⟨cs, t, fr, hq⟩ => World.putObj_heap_other fun e => by
    rw [e, hD] at hq
    cases hq
  exact ⟨h2.1.le hB, h2.2⟩
set_option maxHeartbeats 4000000 in
theorem pall_any {g : Nat} (HP : PeP g) (p : Pe) (most : Int) (w : World) (hL : p.list.length ≤ 65537) : Calls Try.prog 11 #[.agg #[.int .i64 p.o, .int .i64 p.k, .int .i64 p.m], .int .i64 most] w fun e w' => ∃ l A c, l = p.list.take (most.toNat + 1) ∧ e = .returned (.tuple #[.slice A l.length c, .bool true]) ∧ RowQ w.heap.size l A c w' ∧ Below w.heap.size w w' := by
  have eg := HP.eg
  have HSL := Lib.hid fun W => HP.slots p W
  obtain ⟨i0, hi0, hz0, hz1, hz2⟩ := info_parts Try.infoIQ
  have HI0 := Lib.hid hi0
  have HZ0 := Lib.hid hz0
  have HZ1 := Lib.hid hz1
  have HZ2 := Lib.hid hz2
  obtain ⟨L, hLL⟩ : ∃ L, L = p.list := ⟨_, rfl⟩
  rw [← hLL] at HSL hL ⊢
  have HM0 : Hid (Mem w ((w.alloc (.cells #[.int .i64 p.o, .int .i64 p.k, .int .i64 p.m] 23)).alloc (.cells #[.int .i64 most] 3)) [(w.heap.size, .cells #[.int .i64 p.o, .int .i64 p.k, .int .i64 p.m] 23 (0, 0)), (w.heap.size + 1, .cells #[.int .i64 most] 3 (0, 0))]) := Lib.hid (by
    have h := ((Mem.nil w).alloc (.cells #[.int .i64 p.o, .int .i64 p.k, .int .i64 p.m] 23)).alloc (.cells #[.int .i64 most] 3)
    simpa using h)
  have hnil : ∀ lb (V : World), (binOp .eql 42 (.func (.func g) #[] lb) .nilFunc).run Try.prog V = .ok (.bool false) V := fun _ _ => by kernel_rfl
  clear hi0 hz0 hz1 hz2 hLL HP
  refine (callsIn_wide (n := 13)).1 ?_
  refine callsIn_of_wp_marks Try.func11 rfl trivial ?_ rfl
  refine wpIn_wide.2 ?_
  simp only [Try.ntmps11, List.size_toArray, List.length_cons, List.length_nil, Nat.reduceAdd, Nat.reduceSub, Array.replicate_succ, Array.replicate_zero, List.push_toArray, List.append_toArray, List.nil_append, List.cons_append]
  go_upto_region 1 with fail
  change Code.wp _ _ _ _ ((w.alloc (.cells #[.int .i64 p.o, .int .i64 p.k, .int .i64 p.m] 23)).alloc (.cells #[.int .i64 most] 3))
  generalize (w.alloc (.cells #[.int .i64 p.o, .int .i64 p.k, .int .i64 p.m] 23)).alloc (.cells #[.int .i64 most] 3) = u1 at *
  obtain ⟨b2, hb2⟩ : ∃ b, b = w.heap.size := ⟨_, rfl⟩
  obtain ⟨b3, hb3⟩ : ∃ b, b = w.heap.size + 1 := ⟨_, rfl⟩
  rw [← hb3, ← hb2] at HM0
  rw [← hb3, ← hb2]
  have HB23 : Hid (w.heap.size ≤ b2 ∧ w.heap.size ≤ b3) := Lib.hid (by omega)
  clear hb2 hb3
  have x0 := blk_cell (HM0.out.get 0 rfl) 0
  have x1 := blk_cell (HM0.out.get 0 rfl) 1
  have x2 := blk_cell (HM0.out.get 0 rfl) 2
  go_upto_region 5 with (first
    | (go_at_call 19
       refine (HSL.out _).mono ?_
       rintro e u2 ⟨lb, Fi, rfl, hb, hFi, hst⟩
       have HM2 := Lib.hid (HM0.out.step hb)
       have HFI := Lib.hid hFi
       have HST := Lib.hid hst
       clear hb hFi hst))
  have HM3 := Lib.hid (HM2.out.alloc (.cells #[.slice none 0 0] 29))
  have HB23b : Hid (Below u2.heap.size u2 (u2.alloc (.cells #[.slice none 0 0] 29))) := Lib.hid (below_alloc u2 _)
  have HSZ : Hid ((u2.alloc (.cells #[.slice none 0 0] 29)).heap.size = u2.heap.size + 1) := Lib.hid (by simp)
  obtain ⟨b7, hb7⟩ : ∃ b, b = u2.heap.size := ⟨_, rfl⟩
  rw [← hb7] at HM3 HFI HSZ ⊢
  have HB7 : Hid (w.heap.size ≤ b7) := Lib.hid (by rw [hb7]; exact HM2.out.below.size)
  have HB37 : Hid (b3 ≠ b7) := Lib.hid (by have := lt_heap (HM2.out.get 1 rfl); omega)
  clear hb7 x0 x1 x2 HM2 HSL HM0
  generalize hv : u2.alloc (.cells #[.slice none 0 0] 29) = v at *
  clear hv
  go_wp2_with fail
  refine (wpIn_wide (n := 13)).1 ?_
  have hRb : ∀ k, Fi k → ¬ (k = b7 ∨ v.heap.size ≤ k) := fun k hk hr => by
    have h1 := (HFI.out k hk).1
    have h2 := HSZ.out
    omega
  refine wpIn_rangeFunc_ownF rfl (by omega) (gf := g) (lb := lb) rfl trivial eg (HST.out (fun k => k = b7 ∨ v.heap.size ≤ k) hRb) keptK_t (keptK_b fun _ h => .inr h) HB23b.out (fun _ => rfl)
    (fun pre W => (∃ A c, W.heap[b7]? = some (.cells #[.slice A pre.length c] 29 (0, 0)) ∧ RowQ v.heap.size pre A c W) ∧ pre.length ≤ most.toNat ∧ Kept (fun k => k = b7) v W)
    (fun cc pre W => cc = .exit 0 ∧ (∃ A c, W.heap[b7]? = some (.cells #[.slice A pre.length c] 29 (0, 0)) ∧ RowQ v.heap.size pre A c W) ∧ pre.length = most.toNat + 1 ∧ Kept (fun k => k = b7) v W)
    ?hI ?hIx ?h0 (fun x => { tmps := #[.agg #[.int .i64 p.o, .int .i64 p.k, .int .i64 p.m], .int .i64 most, .pointer (some ⟨b2, 0, none⟩), .pointer (some ⟨b3, 0, none⟩), .slice none 0 0, .bool false, .func (.func g) #[] lb, .pointer (some ⟨b7, 0, none⟩), .int .i64 (x : Int), .agg #[.int .i64 p.o, .int .i64 p.k, .int .i64 p.m], .func (.func g) #[] lb, .func (.func g) #[] lb, .bool false, .func (.func g) #[] lb, .int .i64 (x : Int), undef, undef, undef, undef, undef, undef, undef, undef, undef], defers := [] }) ?assign ?body ?done ?stop
  case assign =>
    intro l x W K hK
    unfold slEnc
    gi_wp2
    simpa using hK
  case hI =>
    rintro pre X Y row ⟨⟨A, c, h1, h2⟩, h3, h4⟩ hg hr
    exact ⟨⟨A, c, (grownBy_keeps_cells hg (fun r e => (hr r e).2) h1 rfl).trans h1, h2.own hg fun r e => (hr r e).2⟩, h3, kept_oldQ h4 (Kept.grownBy (R := fun k => v.heap.size ≤ k) hg fun k e => (hr k e).1)⟩
  case hIx =>
    rintro cc pre X Y row ⟨h0, ⟨A, c, h1, h2⟩, h3, h4⟩ hg hr
    exact ⟨h0, ⟨A, c, (grownBy_keeps_cells hg (fun r e => (hr r e).2) h1 rfl).trans h1, h2.own hg fun r e => (hr r e).2⟩, h3, kept_oldQ h4 (Kept.grownBy (R := fun k => v.heap.size ≤ k) hg fun k e => (hr k e).1)⟩
  case h0 => exact ⟨⟨none, 0, HM3.out.get 2 rfl, OwnC.nil_ _ _ _ _ _, fun _ => rfl⟩, Nat.zero_le _, Kept.refl _ _⟩
  case body =>
    rintro l' pre x W ⟨⟨A, c, hq, hrow⟩, hlen, hk⟩ hpl
    have HROW := Lib.hid hrow
    have HK := Lib.hid hk
    have hvW := hk.size
    have h3l := lt_heap (HM3.out.get 1 rfl)
    have hb37 : b3 ≠ b7 := by have := HB37.out; omega
    have HQ3 := Lib.hid ((hk.block b3 h3l hb37).trans (HM3.out.get 1 rfl))
    have HQ7 := Lib.hid hq
    have x7 := blk_cell hq 0
    have y7 := blk_free hq 0
    have HVB : Hid (b7 < v.heap.size ∧ b3 < v.heap.size ∧ v.heap.size ≤ W.heap.size) := Lib.hid ⟨lt_heap (HM3.out.get 2 rfl), h3l, hvW⟩
    obtain ⟨n, hn⟩ : ∃ n, n = pre.length := ⟨_, rfl⟩
    have HNN := Lib.hid hn
    rw [← hn] at x7 hlen hpl
    have hn9 : n ≤ 65537 := by omega
    have HLN := Lib.hid hlen
    have hbL : b7 < (W.alloc (.cells #[.int .i64 (x : Int)] 3)).heap.size := by
      have : (W.alloc (.cells #[.int .i64 (x : Int)] 3)).heap.size = W.heap.size + 1 := by simp
      have := HVB.out
      omega
    have HBL := Lib.hid hbL
    have HOA : Hid (OwnC (W.alloc (.cells #[.int .i64 (x : Int)] 3)) v.heap.size 3 1 A n c (nQ pre)) := Lib.hid (by rw [hn]; exact hrow.1.alloc _)
    have HRD := Lib.hid (rdc_oneQ W 3 (.int .i64 (x : Int)))
    have HA9 : Hid (W.heap.size ≤ (W.alloc (.cells #[.int .i64 (x : Int)] 3)).heap.size) := Lib.hid (alloc_le W _)
    have HKC : Hid (∀ (j : Nat) (o : Obj), Value.ownBlock (.slice A n c) = some j → (W.alloc (.cells #[.int .i64 (x : Int)] 3)).heap[j]? = some o → o.isCells = true) := Lib.hid fun j o hj ho => by
      rcases Nat.eq_zero_or_pos n with h0 | h0
      · have : A = none := hrow.2 (List.length_eq_zero_iff.1 (by omega))
        rw [this] at hj
        cases hj
      · obtain ⟨g', e, _, _, hc', _⟩ := HOA.out.lies h0
        rw [e] at hj
        have hj' : g' = j := by
          injection hj
        obtain ⟨cs, t, fr, hcs⟩ := cells_of_cell (hc' 0 (by omega))
        have hcs : (W.alloc (.cells #[.int .i64 (x : Int)] 3)).heap[g']? = some (.cells cs t fr) := hcs
        rw [hj', ho] at hcs
        injection hcs with hcs
        rw [hcs]
        rfl
    clear hq hrow hk hvW h3l hb37 hn hlen hpl hbL
    by_cases hgt : most < (n : Int) + 1
    · have HGT := Lib.hid hgt
      gi_wp2_with (first
        | (refine wpListIn_append_vals rfl (.tmp 15) (.tmp 17) 29 rfl v.heap.size 3 i0 (.int .i64 0) 1 Try.underlying29 HI0.out HZ0.out HZ1.out rfl (by decide) rfl HOA.out (m := 1) rfl HRD.out (fun k _ => rfl) (by unfold maxLen; omega) (by rw [HZ2.out]; omega) (Nat.le_trans HVB.out.2.2 HA9.out) ?_
           intro A2 c2 u5 hown5 hg5 _
           have HO5 : Hid (OwnC u5 v.heap.size 3 1 A2 (n + 1) c2 (nQ (pre ++ [x]))) := Lib.hid (hown5.same fun k hk => by rw [nQ_app _ _ _ (by rw [← HNN.out]; omega), ← HNN.out, Nat.mul_one])
           have hbb : Below v.heap.size (W.alloc (.cells #[.int .i64 (x : Int)] 3)) u5 := (Below.refl _ _).grown hg5 (Nat.le_trans HVB.out.2.2 HA9.out) fun k hk => HOA.out.at_ k hk
           have HBB := Lib.hid hbb
           have HKO := Lib.hid ((KeepsOthers.alloc W (.cells #[.int .i64 (x : Int)] 3)).trans (KeepsOthers.of_grownBy hg5 HKC.out))
           have hq7 := (hbb.block b7 HVB.out.1).trans (blk_old HQ7.out (.cells #[.int .i64 (x : Int)] 3))
           have hq3 := (hbb.block b3 HVB.out.2.1).trans (blk_old HQ3.out (.cells #[.int .i64 (x : Int)] 3))
           have HR7 := Lib.hid hq7
           have HR3 := Lib.hid hq3
           have w7 := blk_cell hq7 0
           have v7 := blk_free hq7 0
           have z7 : (u5.setCell ⟨b7, 0, none⟩ (.slice A2 (n + 1) c2)).cell? ⟨b7, 0, none⟩ = some (.slice A2 (n + 1) c2) := World.cell?_setCell_same' _ _ _ (by rw [w7]; rfl)
           have z3 : (u5.setCell ⟨b7, 0, none⟩ (.slice A2 (n + 1) c2)).cell? ⟨b3, 0, none⟩ = some (.int .i64 most) := blk_cell ((Below.heap_setCell u5 ⟨b7, 0, none⟩ _ b3 HB37.out).trans hq3) 0
           clear hown5 hg5 hbb hq7 hq3 x7 y7))
      have hkk : Kept (fun k => k = b7 ∨ v.heap.size ≤ k) W (u5.setCell ⟨b7, 0, none⟩ (.slice A2 (n + 1) c2)) := (((Kept.refl _ W).alloc _).trans (kept_belowQ HBB.out) fun _ _ q => .inr q).setCell (p := ⟨b7, 0, none⟩) (.inl (.inl rfl)) _
      have hkv : Kept (fun k => k = b7) v (u5.setCell ⟨b7, 0, none⟩ (.slice A2 (n + 1) c2)) := HK.out.trans hkk fun k hk q => by omega
      have hll : (pre ++ [x]).length = n + 1 := by rw [List.length_append, List.length_singleton, ← HNN.out]
      have hrow2 : ∃ A c, (u5.setCell ⟨b7, 0, none⟩ (.slice A2 (n + 1) c2)).heap[b7]? = some (.cells #[.slice A (pre ++ [x]).length c] 29 (0, 0)) ∧ RowQ v.heap.size (pre ++ [x]) A c (u5.setCell ⟨b7, 0, none⟩ (.slice A2 (n + 1) c2)) := by
        refine ⟨A2, c2, ?_, ?_, fun h => absurd h (by simp)⟩
        · rw [hll]
          exact blk_set HR7.out 0 _
        · rw [hll]
          exact HO5.out.far (p := ⟨b7, 0, none⟩) HVB.out.1 _
      exact ⟨HKO.out.trans (KeepsOthers.setCell _ _ _), rfl, hrow2, by have := HGT.out; have := HLN.out; omega, hkv⟩
    · have HGT := Lib.hid hgt
      gi_wp2_with (first
        | (refine wpListIn_append_vals rfl (.tmp 15) (.tmp 17) 29 rfl v.heap.size 3 i0 (.int .i64 0) 1 Try.underlying29 HI0.out HZ0.out HZ1.out rfl (by decide) rfl HOA.out (m := 1) rfl HRD.out (fun k _ => rfl) (by unfold maxLen; omega) (by rw [HZ2.out]; omega) (Nat.le_trans HVB.out.2.2 HA9.out) ?_
           intro A2 c2 u5 hown5 hg5 _
           have HO5 : Hid (OwnC u5 v.heap.size 3 1 A2 (n + 1) c2 (nQ (pre ++ [x]))) := Lib.hid (hown5.same fun k hk => by rw [nQ_app _ _ _ (by rw [← HNN.out]; omega), ← HNN.out, Nat.mul_one])
           have hbb : Below v.heap.size (W.alloc (.cells #[.int .i64 (x : Int)] 3)) u5 := (Below.refl _ _).grown hg5 (Nat.le_trans HVB.out.2.2 HA9.out) fun k hk => HOA.out.at_ k hk
           have HBB := Lib.hid hbb
           have HKO := Lib.hid ((KeepsOthers.alloc W (.cells #[.int .i64 (x : Int)] 3)).trans (KeepsOthers.of_grownBy hg5 HKC.out))
           have hq7 := (hbb.block b7 HVB.out.1).trans (blk_old HQ7.out (.cells #[.int .i64 (x : Int)] 3))
           have hq3 := (hbb.block b3 HVB.out.2.1).trans (blk_old HQ3.out (.cells #[.int .i64 (x : Int)] 3))
           have HR7 := Lib.hid hq7
           have HR3 := Lib.hid hq3
           have w7 := blk_cell hq7 0
           have v7 := blk_free hq7 0
           have z7 : (u5.setCell ⟨b7, 0, none⟩ (.slice A2 (n + 1) c2)).cell? ⟨b7, 0, none⟩ = some (.slice A2 (n + 1) c2) := World.cell?_setCell_same' _ _ _ (by rw [w7]; rfl)
           have z3 : (u5.setCell ⟨b7, 0, none⟩ (.slice A2 (n + 1) c2)).cell? ⟨b3, 0, none⟩ = some (.int .i64 most) := blk_cell ((Below.heap_setCell u5 ⟨b7, 0, none⟩ _ b3 HB37.out).trans hq3) 0
           clear hown5 hg5 hbb hq7 hq3 x7 y7))
      have hkk : Kept (fun k => k = b7 ∨ v.heap.size ≤ k) W (u5.setCell ⟨b7, 0, none⟩ (.slice A2 (n + 1) c2)) := (((Kept.refl _ W).alloc _).trans (kept_belowQ HBB.out) fun _ _ q => .inr q).setCell (p := ⟨b7, 0, none⟩) (.inl (.inl rfl)) _
      have hkv : Kept (fun k => k = b7) v (u5.setCell ⟨b7, 0, none⟩ (.slice A2 (n + 1) c2)) := HK.out.trans hkk fun k hk q => by omega
      have hll : (pre ++ [x]).length = n + 1 := by rw [List.length_append, List.length_singleton, ← HNN.out]
      have hrow2 : ∃ A c, (u5.setCell ⟨b7, 0, none⟩ (.slice A2 (n + 1) c2)).heap[b7]? = some (.cells #[.slice A (pre ++ [x]).length c] 29 (0, 0)) ∧ RowQ v.heap.size (pre ++ [x]) A c (u5.setCell ⟨b7, 0, none⟩ (.slice A2 (n + 1) c2)) := by
        refine ⟨A2, c2, ?_, ?_, fun h => absurd h (by simp)⟩
        · rw [hll]
          exact blk_set HR7.out 0 _
        · rw [hll]
          exact HO5.out.far (p := ⟨b7, 0, none⟩) HVB.out.1 _
      exact ⟨HKO.out.trans (KeepsOthers.setCell _ _ _), hkk, hrow2, by have := HGT.out; have := HLN.out; omega, hkv⟩
  case done =>
    rintro D xs W hD rfl ⟨⟨A, c, hq, hrow⟩, hlen, hk⟩ hK
    have x7 := blk_cell hq 0
    have HB := Lib.hid (HM3.out.below.trans (hk.below HM3.out.below.size fun k e => by rw [e]; exact HB7.out))
    have HK := Lib.hid hK
    have HROW := Lib.hid hrow
    have HLN := Lib.hid hlen
    have HWD : Hid (w.heap.size ≤ D) := Lib.hid (Nat.le_trans HM3.out.below.size hD)
    clear hq hrow hlen hk hK
    go_wp2_with fail
    refine ⟨by simp, .inl ⟨_, _, rfl, run_takeDeferred HK.out, ?_⟩⟩
    refine ⟨_, results_tmp2 rfl _ _ _, _, A, c, ?_, rfl, ?_, HB.out.trans (belowK_b (w := w) (Nat.le_refl _) W D _ _ HWD.out HK.out rfl rfl)⟩
    · exact (List.take_of_length_le (by have := HLN.out; omega)).symm
    · exact rowQ_end HROW.out HM3.out.below.size HK.out
  case stop =>
    rintro D cc pre W hD hpre ⟨rfl, ⟨A, c, hq, hrow⟩, hlen, hk⟩ hK
    have x7 := blk_cell hq 0
    have HB := Lib.hid (HM3.out.below.trans (hk.below HM3.out.below.size fun k e => by rw [e]; exact HB7.out))
    have HK := Lib.hid hK
    have HROW := Lib.hid hrow
    have HLN := Lib.hid hlen
    have HPR := Lib.hid hpre
    have HWD : Hid (w.heap.size ≤ D) := Lib.hid (Nat.le_trans HM3.out.below.size hD)
    clear hq hrow hlen hk hK hpre
    gi_wp2
    go_wp2_with fail
    refine ⟨by simp, .inl ⟨_, _, rfl, run_takeDeferred HK.out, ?_⟩⟩
    refine ⟨_, results_tmp2 rfl _ _ _, _, A, c, ?_, rfl, ?_, HB.out.trans (belowK_b (w := w) (Nat.le_refl _) W D _ _ HWD.out HK.out rfl rfl)⟩
    · have := List.prefix_iff_eq_take.1 HPR.out
      rw [HLN.out] at this
      exact this
    · exact rowQ_end HROW.out HM3.out.below.size HK.out
end Go.Proofs.Ytdeghjhlbhpopaa
