/- Stage 10: going over a list: what Of hands on. -/
import Derived.Test.YthlnhkkjpjbmeaaVk
namespace Go.Proofs.Ythlnhkkjpjbmeaa
set_option maxRecDepth 100000
open Go.RowKit Go.Shelf
attribute [local go_sem] Oper.semAt_some
section
variable (wb : World) (p : Nat) (L : List Nat) (S : Nat → Sl)
def OfZ (l : Int) (b2 b3 : Nat) (X : Nat → Prop) (W : World) : Prop := (∃ A, SSt wb (Or2 X (fun k => k = b2 ∨ k = b3)) W p (S 0) A none) ∧ (∀ k, (k = b2 ∨ k = b3) → ¬ X k) ∧
  W.heap[b2]? = some (.cells #[.pointer (some ⟨p, 0, none⟩)] 24 (0, 0)) ∧ W.heap[b3]? = some (.cells #[.int .i64 l] 3 (0, 0))
def OfD (X : Nat → Prop) (xs : List Nat) (W : World) : Prop := xs = L ∧ ∃ A, SSt wb X W p (S L.length) A none
def OfS (X : Nat → Prop) (pre : List Nat) (W : World) : Prop := pre <+: L ∧ ∃ A, SSt wb X W p (S pre.length) A none
end
theorem YieldAt.wide_any {k k' l0 : Nat} {P : Program} {l : Nat} {args : Array Value} {W : World} {R : Ending → World → Prop} (h : YieldAt Fence.wide k P l args W R) : YieldAt (Fence.wide.inRound l0) k' P l args W R := by
  obtain ⟨fn, tmps, assign, body, hy, h1, h2⟩ := h
  exact ⟨fn, tmps, assign, body, hy, h1, fun c cs _ => h2 c cs (room_wide _)⟩
/-- A walk ends. -/
theorem SSt.leave {wb W : World} {X : Nat → Prop} {p : Nat} {s : Sl} {A b a k : Nat} {u : FrameMode} (h : SSt wb X W p s A (some (b, a))) :
    CallsDIn Fence.wide k Try.prog 34 #[.pointer (some ⟨p, 0, none⟩), .pointer (some ⟨b, 0, none⟩)] u W fun e u' w' => u' = u ∧ e = .returned (.tuple #[]) ∧ SSt wb X w' p s A none ∧ W.heap.size ≤ w'.heap.size ∧ ∀ k, X k → w'.heap[k]? = W.heap[k]? := by
  obtain ⟨F, ⟨cA, B, cB, V, cV, fl, pv, nx, sz, hx, hr⟩, h1, h2, h3⟩ := h
  refine (pleaveX hx).mono ?_
  rintro e u' w' ⟨hu, he, hx', hk⟩
  obtain ⟨q1, q2⟩ := SSt.turned (F := F) (F' := F) ⟨cA, B, cB, V, cV, fl, pv, nx, sz, hx, hr⟩ h1 h2 h3 ⟨cA, B, cB, V, cV, fl, pv, nx, sz, hx', hr⟩ hk fun k hk => .inl hk
  exact ⟨hu, he, q1, hk.size, q2⟩
set_option maxHeartbeats 4000000 in
theorem pof_it (wb : World) (p : Nat) (L : List Nat) (S : Nat → Sl) (pl : Nat → Nat) (m n i : Nat) (hw : Walk L S pl m n (m + i)) (hm : m ≤ 65536) (hn : n ≤ 4096) (hi : i < n) (b2 b3 : Nat) :
    SeqU Fence.wide 12 Try.prog 33 #[.pointer (some ⟨b2, 0, none⟩), .pointer (some ⟨b3, 0, none⟩)] nEnc (OfZ wb p S (i : Int) b2 b3) (WkY wb p L S) (WkA wb p S pl) (OfD wb p L S) (OfS wb p L S) := fun ly I Ix X W hI hIx hZ hI0 hY => by
  obtain ⟨⟨A, hst⟩, hKX, hb2, hb3⟩ := hZ
  have HI := Lib.hid hI
  have HIx := Lib.hid hIx
  have HY := Lib.hid hY
  have HWk := Lib.hid hw
  obtain ⟨o, ho⟩ : ∃ o, o = m + i := ⟨_, rfl⟩
  rw [← ho] at HWk
  obtain ⟨by_, hby⟩ : ∃ b, b = W.heap.size := ⟨_, rfl⟩
  have HBY : Hid ((W.alloc (.cells #[.func (.yield ly) #[] #[]] 62)).heap[by_]? = some (.cells #[.func (.yield ly) #[] #[]] 62 (0, 0))) := Lib.hid (by rw [hby]; exact heap_alloc_new W _)
  have hS0 : SSt wb (Or2 (Or2 X (fun k => k = b2 ∨ k = b3)) (fun k => k = by_)) (W.alloc (.cells #[.func (.yield ly) #[] #[]] 62)) p (S 0) A none := hst.more (below_alloc W _) fun k hk => by
    subst hk
    rw [hby]
    simp
  have HS0 := Lib.hid hS0
  have HB0 : Hid (Below W.heap.size W (W.alloc (.cells #[.func (.yield ly) #[] #[]] 62))) := Lib.hid (below_alloc W _)
  have HKX : Hid (∀ k, (k = b2 ∨ k = b3) → ¬ X k) := Lib.hid hKX
  have HXL : Hid (∀ k, X k → k < by_) := Lib.hid fun k hk => by rw [hby]; exact hst.lt k (.inl hk)
  have HB2 : Hid ((W.alloc (.cells #[.func (.yield ly) #[] #[]] 62)).heap[b2]? = some (.cells #[.pointer (some ⟨p, 0, none⟩)] 24 (0, 0))) := Lib.hid (blk_old hb2 _)
  have HB3 : Hid ((W.alloc (.cells #[.func (.yield ly) #[] #[]] 62)).heap[b3]? = some (.cells #[.int .i64 (i : Int)] 3 (0, 0))) := Lib.hid (blk_old hb3 _)
  have HB23 : Hid (b2 < by_ ∧ b3 < by_) := Lib.hid (by rw [hby]; exact ⟨lt_heap hb2, lt_heap hb3⟩)
  have HI0 : Hid (I X [] (W.alloc (.cells #[.func (.yield ly) #[] #[]] 62))) := Lib.hid (hI X [] W _ hI0 (below_alloc W _).size fun k hk => (below_alloc W _).block k (hst.lt k (.inl hk)))
  obtain ⟨_, hpx⟩ := show ∃ _ : Unit, True from ⟨(), trivial⟩
  clear hI hIx hY hst hKX hb2 hb3 hI0 hw hS0 hpx
  refine callsIn_of_wp_marks Try.func33 rfl trivial ?_ rfl
  refine wpIn_wide.2 ?_
  simp only [Try.ntmps33, List.size_toArray, List.length_cons, List.length_nil, Nat.reduceAdd, Nat.reduceSub, Array.replicate_succ, Array.replicate_zero, List.push_toArray, List.append_toArray, List.nil_append, List.cons_append]
  go_upto_region 1 with fail
  change Code.wp _ _ _ _ (W.alloc (.cells #[.func (.yield ly) #[] #[]] 62))
  generalize W.alloc (.cells #[.func (.yield ly) #[] #[]] 62) = v0 at *
  rw [← hby]
  have HBYW := Lib.hid hby
  clear hby
  obtain ⟨F, ⟨cA, B, cB, V, cV, fl, pv, nx, sz, hx, hr⟩, h1, h2, h3⟩ := HS0.out
  rw [HWk.out.cells, HWk.out.len] at hx
  have HX0 := Lib.hid hx
  have HR0 := Lib.hid hr
  have HF1 := Lib.hid h1
  have HF2 := Lib.hid h2
  have HF3 := Lib.hid h3
  have HLi : Hid (∀ U, Below v0.heap.size v0 U → Calls Try.prog 25 #[.pointer (some ⟨p, 0, none⟩), .int .i64 (i : Int)] U (ret (.bool true) U)) := Lib.hid fun U hU => by
    have := (hx.step hU).hasL (i : Int)
    have e : (decide ((0 : Int) ≤ (i : Int)) && decide ((i : Int) < (n : Int))) = true := by simp; omega
    rwa [e] at this
  have HOw : Hid (∀ U, Below v0.heap.size v0 U → Calls Try.prog 23 #[.pointer (some ⟨p, 0, none⟩), .int .i64 (i : Int)] U (ret (.int .i64 (o : Int)) U)) := Lib.hid fun U hU => by
    rw [ho]
    exact (hx.step hU).own hm hn i (by omega)
  have HO := Lib.hid ho
  clear hx hr h1 h2 h3 ho HS0
  have b20 : v0.cell? ⟨b2, 0, none⟩ = some (.pointer (some ⟨p, 0, none⟩)) := blk_cell HB2.out 0
  have b30 : v0.cell? ⟨b3, 0, none⟩ = some (.int .i64 (i : Int)) := blk_cell HB3.out 0
  go_upto_region 2 with (first
    | (go_at_call 25
       refine (HLi.out _ (Below.refl _ _)).mono ?_
       rintro e v1 ⟨rfl, hb⟩
       have HB1 := Lib.hid hb
       clear b20 b30
       have b20 : v1.cell? ⟨b2, 0, none⟩ = some (.pointer (some ⟨p, 0, none⟩)) := blk_cell ((hb.block _ (lt_heap HB2.out)).trans HB2.out) 0
       have b30 : v1.cell? ⟨b3, 0, none⟩ = some (.int .i64 (i : Int)) := blk_cell ((hb.block _ (lt_heap HB3.out)).trans HB3.out) 0
       clear hb))
  have hbk : ∀ W, (Instr.build 70 #[(0, .int .i64 (o : Int))]).run Try.prog W = .ok (.agg #[.int .i64 (o : Int)]) W := fun W => by kernel_rfl
  go_upto_region 3 with (first
    | (go_at_call 23
       refine (HOw.out _ HB1.out).mono ?_
       rintro e v2 ⟨rfl, hb⟩
       have HB2b := Lib.hid (HB1.out.trans (hb.mono HB1.out.size))
       clear hb b20 b30))
  obtain ⟨b, hbw⟩ : ∃ b, b = v2.heap.size := ⟨_, rfl⟩
  have HBW : Hid ((v2.alloc (.cells #[.int .i64 (o : Int)] 70)).heap[b]? = some (.cells #[.int .i64 (o : Int)] 70 (0, 0))) := Lib.hid (by rw [hbw]; exact heap_alloc_new v2 _)
  have HBZ : Hid (b + 1 = (v2.alloc (.cells #[.int .i64 (o : Int)] 70)).heap.size) := Lib.hid (by rw [hbw]; simp)
  have HB3b : Hid (Below v0.heap.size v0 (v2.alloc (.cells #[.int .i64 (o : Int)] 70))) := Lib.hid (HB2b.out.alloc HB2b.out.size _)
  have HBV : Hid (v0.heap.size ≤ b) := Lib.hid (by rw [hbw]; exact HB2b.out.size)
  rw [← hbw]
  clear hbw hbk HB1 HB2b HLi HOw
  generalize v2.alloc (.cells #[.int .i64 (o : Int)] 70) = u at *
  have HX3 := Lib.hid (HX0.out.step HB3b.out)
  have hV0 : ∀ k, V = some ⟨k, 0, none⟩ → k ≠ b2 := fun k e q => by
    subst q
    exact (HF1.out k (HX3.out.mV k e)).2 (.inl (.inr (.inl rfl)))
  have hVp : ¬ V = some ⟨p, 0, none⟩ := fun e => HX3.out.pV e rfl
  have HPL : Hid (p < u.heap.size) := Lib.hid (lt_heap HX3.out.blk)
  have HPV := Lib.hid hVp
  have HPB : Hid (u.heap[p]? = some (.cells #[.slice (some ⟨A, 0, none⟩) (m + n) cA, .slice (some ⟨B, 0, none⟩) n cB, .slice V 0 cV] 53 (0, 0))) := Lib.hid HX3.out.blk
  have HB2u : Hid (u.heap[b2]? = some (.cells #[.pointer (some ⟨p, 0, none⟩)] 24 (0, 0))) := Lib.hid ((HB3b.out.block _ (lt_heap HB2.out)).trans HB2.out)
  have HP2 : Hid (∀ W, Kept (fun k => V = some ⟨k, 0, none⟩) u W → W.cell? ⟨p, 2, none⟩ = some (.slice V 0 cV)) := Lib.hid fun W hW => by
    rw [kept_cell_block (p := ⟨p, 2, none⟩) (hW.block p HPL.out hVp)]
    exact blk_cell HPB.out 2
  have HB2o := HB2
  clear HB2
  have HB2 : Hid (∀ W, Kept (fun k => V = some ⟨k, 0, none⟩) u W → W.cell? ⟨b2, 0, none⟩ = some (.pointer (some ⟨p, 0, none⟩))) := Lib.hid fun W hW => by
    rw [kept_cell_block (p := ⟨b2, 0, none⟩) (hW.block b2 (lt_heap HB2u.out) fun e => hV0 b2 e rfl)]
    exact blk_cell HB2u.out 0
  have HAP := Lib.hid (fun W hb hz => ap_run (b := b) HX3.out.rowV W hb hz)
  clear hV0 hVp
  rename_i Kc hKc
  refine wp_region_invG (fun a0 l a W => l.size = 11 ∧ a0.tmps.size = 35 ∧ ∃ A2 c2, FrU a0 ([(0, 15, .pointer (some ⟨p, 0, none⟩)), (1, 16, .pointer (some ⟨p, 0, none⟩)), (2, 17, .pointer (some ⟨p, 0, none⟩)), (3, 18, .pointer (some ⟨p, 2, none⟩)), (4, 19, .slice V 0 cV), (5, 20, .pointer (some ⟨b, 0, none⟩)), (6, 21, .slice (some ⟨u.heap.size, 0, none⟩) 1 1), (7, 22, .slice A2 1 c2), (8, 23, .pointer (some ⟨p, 0, none⟩)), (9, 24, .pointer (some ⟨p, 2, none⟩))] : List (Nat × Nat × Value)) l a ∧ ((l.getD 10 false = false ∧ (l.getD 9 false = true → l.getD 8 false = true) ∧ ApI u b V (l.getD 6 false) (l.getD 7 false) W A2 c2) ∨ ((∀ j, j < 11 → l.getD j false = true) ∧ ∃ W1, ApD u b V W1 A2 c2 ∧ W = W1.setCell ⟨p, 2, none⟩ (.slice A2 1 c2)))) ?_ ?_ ?_ ?_ ?_ ?_
  · kernel_rfl
  · exact fun _ _ _ h => h.1
  · kernel_rfl
  · refine ⟨by simp, rfl, none, 0, FrU.start _ _ _, .inl ⟨getD_none _ _, fun h => (by rw [getD_none] at h; cases h), ?_⟩⟩
    rw [getD_none, getD_none]
    exact ⟨fun _ => rfl, fun _ => ⟨(Below.refl _ _).drew, fun _ => rfl, fun h => (by cases h)⟩, fun h => (by cases h)⟩
  · intro l a W i5 o hI ho hn hdep
    obtain ⟨hl, hsz, A2, c2, hF, hW⟩ := hI
    match i5, ho, hn with
    | 0, ho, hn =>
      simp only [List.getElem?_toArray, List.getElem?_cons_zero, Option.some.injEq] at ho
      subst ho
      refine ⟨rfl, ?_⟩
      obtain ⟨h10, h98, hA⟩ := hW.resolve_right (fun q => by have := q.1 0 (by decide); rw [getD_no hn] at this; cases this)
      have h1 : a.tmps[1]?.getD undef = .pointer (some ⟨b2, 0, none⟩) := hF.base 1 (by simp) rfl
      have hld := HB2.out W hA.kept
      exact owp_value (.pointer (some ⟨p, 0, none⟩)) (w' := W) (by clear hdep; go_simp) ⟨by simp [hl], hsz, A2, c2, hF.put 0 15 _ (by rw [hsz]; decide) (by simp) (by simp) (by simp), .inl ⟨(by rw [getD_set (by decide)]; exact h10), (fun h => by rw [getD_set (by decide)] at h ⊢; exact h98 h), by rw [getD_set (by decide), getD_set (by decide)]; exact hA⟩⟩
    | 1, ho, hn =>
      simp only [List.getElem?_toArray, List.getElem?_cons_zero, List.getElem?_cons_succ, Option.some.injEq] at ho
      subst ho
      refine ⟨rfl, ?_⟩
      obtain ⟨h10, h98, hA⟩ := hW.resolve_right (fun q => by have := q.1 1 (by decide); rw [getD_no hn] at this; cases this)
      have h1 : a.tmps[1]?.getD undef = .pointer (some ⟨b2, 0, none⟩) := hF.base 1 (by simp) rfl
      have hld := HB2.out W hA.kept
      exact owp_value (.pointer (some ⟨p, 0, none⟩)) (w' := W) (by clear hdep; go_simp) ⟨by simp [hl], hsz, A2, c2, hF.put 1 16 _ (by rw [hsz]; decide) (by simp) (by simp) (by simp), .inl ⟨(by rw [getD_set (by decide)]; exact h10), (fun h => by rw [getD_set (by decide)] at h ⊢; exact h98 h), by rw [getD_set (by decide), getD_set (by decide)]; exact hA⟩⟩
    | 2, ho, hn =>
      simp only [List.getElem?_toArray, List.getElem?_cons_zero, List.getElem?_cons_succ, Option.some.injEq] at ho
      subst ho
      refine ⟨rfl, ?_⟩
      obtain ⟨h10, h98, hA⟩ := hW.resolve_right (fun q => by have := q.1 2 (by decide); rw [getD_no hn] at this; cases this)
      have h16 : a.tmps[16]?.getD undef = .pointer (some ⟨p, 0, none⟩) := hF.slot (i := 1) (s := 16) (v := .pointer (some ⟨p, 0, none⟩)) (by simp) (hdep ⟨1, .data⟩ (by simp) rfl)
      exact owp_value (.pointer (some ⟨p, 0, none⟩)) (w' := W) (by clear hdep; go_simp) ⟨by simp [hl], hsz, A2, c2, hF.put 2 17 _ (by rw [hsz]; decide) (by simp) (by simp) (by simp), .inl ⟨(by rw [getD_set (by decide)]; exact h10), (fun h => by rw [getD_set (by decide)] at h ⊢; exact h98 h), by rw [getD_set (by decide), getD_set (by decide)]; exact hA⟩⟩
    | 3, ho, hn =>
      simp only [List.getElem?_toArray, List.getElem?_cons_zero, List.getElem?_cons_succ, Option.some.injEq] at ho
      subst ho
      refine ⟨rfl, ?_⟩
      obtain ⟨h10, h98, hA⟩ := hW.resolve_right (fun q => by have := q.1 3 (by decide); rw [getD_no hn] at this; cases this)
      have h17 : a.tmps[17]?.getD undef = .pointer (some ⟨p, 0, none⟩) := hF.slot (i := 2) (s := 17) (v := .pointer (some ⟨p, 0, none⟩)) (by simp) (hdep ⟨2, .data⟩ (by simp) rfl)
      exact owp_value (.pointer (some ⟨p, 2, none⟩)) (w' := W) (by clear hdep; go_simp) ⟨by simp [hl], hsz, A2, c2, hF.put 3 18 _ (by rw [hsz]; decide) (by simp) (by simp) (by simp), .inl ⟨(by rw [getD_set (by decide)]; exact h10), (fun h => by rw [getD_set (by decide)] at h ⊢; exact h98 h), by rw [getD_set (by decide), getD_set (by decide)]; exact hA⟩⟩
    | 4, ho, hn =>
      simp only [List.getElem?_toArray, List.getElem?_cons_zero, List.getElem?_cons_succ, Option.some.injEq] at ho
      subst ho
      refine ⟨rfl, ?_⟩
      obtain ⟨h10, h98, hA⟩ := hW.resolve_right (fun q => by have := q.1 4 (by decide); rw [getD_no hn] at this; cases this)
      have h18 : a.tmps[18]?.getD undef = .pointer (some ⟨p, 2, none⟩) := hF.slot (i := 3) (s := 18) (v := .pointer (some ⟨p, 2, none⟩)) (by simp) (hdep ⟨3, .data⟩ (by simp) rfl)
      have hld := HP2.out W hA.kept
      exact owp_value (.slice V 0 cV) (w' := W) (by clear hdep; go_simp) ⟨by simp [hl], hsz, A2, c2, hF.put 4 19 _ (by rw [hsz]; decide) (by simp) (by simp) (by simp), .inl ⟨(by rw [getD_set (by decide)]; exact h10), (fun h => by rw [getD_set (by decide)] at h ⊢; exact h98 h), by rw [getD_set (by decide), getD_set (by decide)]; exact hA⟩⟩
    | 5, ho, hn =>
      simp only [List.getElem?_toArray, List.getElem?_cons_zero, List.getElem?_cons_succ, Option.some.injEq] at ho
      subst ho
      refine ⟨rfl, ?_⟩
      obtain ⟨h10, h98, hA⟩ := hW.resolve_right (fun q => by have := q.1 5 (by decide); rw [getD_no hn] at this; cases this)
      have h4 : a.tmps[4]?.getD undef = .pointer (some ⟨b, 0, none⟩) := hF.base 4 (by simp) rfl
      exact owp_value (.pointer (some ⟨b, 0, none⟩)) (w' := W) (by clear hdep; go_simp) ⟨by simp [hl], hsz, A2, c2, hF.put 5 20 _ (by rw [hsz]; decide) (by simp) (by simp) (by simp), .inl ⟨(by rw [getD_set (by decide)]; exact h10), (fun h => by rw [getD_set (by decide)] at h ⊢; exact h98 h), by rw [getD_set (by decide), getD_set (by decide)]; exact hA⟩⟩
    | 6, ho, hn =>
      simp only [List.getElem?_toArray, List.getElem?_cons_zero, List.getElem?_cons_succ, Option.some.injEq] at ho
      subst ho
      refine ⟨rfl, ?_⟩
      obtain ⟨h10, h98, hA⟩ := hW.resolve_right (fun q => by have := q.1 6 (by decide); rw [getD_no hn] at this; cases this)
      have h20 : a.tmps[20]?.getD undef = .pointer (some ⟨b, 0, none⟩) := hF.slot (i := 5) (s := 20) (v := .pointer (some ⟨b, 0, none⟩)) (by simp) (hdep ⟨5, .data⟩ (by simp) rfl)
      have h7 : l.getD 7 false = false := hA.1 (getD_no hn)
      rw [getD_no hn, h7] at hA
      obtain ⟨_, hA2, _⟩ := hA
      obtain ⟨hb, hz, _⟩ := hA2 rfl
      have hz := hz rfl
      refine owp_value (.slice (some ⟨u.heap.size, 0, none⟩) 1 1) (w' := W.alloc (.cells #[.pointer (some ⟨b, 0, none⟩)] 68)) ?_ ⟨by simp [hl], hsz, A2, c2, hF.put 6 21 _ (by rw [hsz]; decide) (by simp) (by simp) (by simp), .inl ⟨(by rw [getD_set (by decide)]; exact h10), (fun h => by rw [getD_set (by decide)] at h ⊢; exact h98 h), ?_⟩⟩
      · clear hdep
        rw [← hz]
        go_simp
      · rw [getD_set_self hn, getD_set (by decide), h7]
        exact ⟨fun h => (by cases h), fun _ => ⟨hb.alloc hb.size _, fun h => (by cases h), fun _ => by rw [← hz]; exact heap_alloc_new W _⟩, fun h => (by cases h)⟩
    | 7, ho, hn =>
      simp only [List.getElem?_toArray, List.getElem?_cons_zero, List.getElem?_cons_succ, Option.some.injEq] at ho
      subst ho
      refine ⟨rfl, ?_⟩
      obtain ⟨h10, h98, hA⟩ := hW.resolve_right (fun q => by have := q.1 7 (by decide); rw [getD_no hn] at this; cases this)
      have h19 : a.tmps[19]?.getD undef = .slice V 0 cV := hF.slot (i := 4) (s := 19) (v := .slice V 0 cV) (by simp) (hdep ⟨4, .data⟩ (by simp) rfl)
      have h21 : a.tmps[21]?.getD undef = .slice (some ⟨u.heap.size, 0, none⟩) 1 1 := hF.slot (i := 6) (s := 21) (v := .slice (some ⟨u.heap.size, 0, none⟩) 1 1) (by simp) (hdep ⟨6, .data⟩ (by simp) rfl)
      have h6 : l.getD 6 false = true := hdep ⟨6, .data⟩ (by simp) rfl
      rw [getD_no hn, h6] at hA
      obtain ⟨_, hA2, _⟩ := hA
      obtain ⟨hb, _, hz⟩ := hA2 rfl
      have hz := hz rfl
      obtain ⟨A3, c3, w', hrun, hD⟩ := HAP.out W hb hz
      refine owp_value (.slice A3 1 c3) (w' := w') ?_ ⟨by simp [hl], hsz, A3, c3, hF.put 7 22 _ (by rw [hsz]; decide) (by simp) (by simp) (by simp), .inl ⟨(by rw [getD_set (by decide)]; exact h10), (fun h => by rw [getD_set (by decide)] at h ⊢; exact h98 h), ?_⟩⟩
      · clear hdep
        unfold execOp
        simp only [resolve, invoke, builtin, Sem.run_bind, Sem.run_pure, Result.andThen_ok, List.map_toArray, List.map_cons, List.map_nil, Act.eval, Array.getD_eq_getD_getElem?, h19, h21, hrun]
      · rw [getD_set_self hn, getD_set (by decide), h6]
        exact ⟨fun h => (by cases h), fun h => (by cases h), fun _ => hD⟩
    | 8, ho, hn =>
      simp only [List.getElem?_toArray, List.getElem?_cons_zero, List.getElem?_cons_succ, Option.some.injEq] at ho
      subst ho
      refine ⟨rfl, ?_⟩
      obtain ⟨h10, h98, hA⟩ := hW.resolve_right (fun q => by have := q.1 8 (by decide); rw [getD_no hn] at this; cases this)
      have h15 : a.tmps[15]?.getD undef = .pointer (some ⟨p, 0, none⟩) := hF.slot (i := 0) (s := 15) (v := .pointer (some ⟨p, 0, none⟩)) (by simp) (hdep ⟨0, .data⟩ (by simp) rfl)
      exact owp_value (.pointer (some ⟨p, 0, none⟩)) (w' := W) (by clear hdep; go_simp) ⟨by simp [hl], hsz, A2, c2, hF.put 8 23 _ (by rw [hsz]; decide) (by simp) (by simp) (by simp), .inl ⟨(by rw [getD_set (by decide)]; exact h10), (fun _ => getD_set_self hn), by rw [getD_set (by decide), getD_set (by decide)]; exact hA⟩⟩
    | 9, ho, hn =>
      simp only [List.getElem?_toArray, List.getElem?_cons_zero, List.getElem?_cons_succ, Option.some.injEq] at ho
      subst ho
      refine ⟨rfl, ?_⟩
      obtain ⟨h10, h98, hA⟩ := hW.resolve_right (fun q => by have := q.1 9 (by decide); rw [getD_no hn] at this; cases this)
      have h23 : a.tmps[23]?.getD undef = .pointer (some ⟨p, 0, none⟩) := hF.slot (i := 8) (s := 23) (v := .pointer (some ⟨p, 0, none⟩)) (by simp) (hdep ⟨8, .data⟩ (by simp) rfl)
      exact owp_value (.pointer (some ⟨p, 2, none⟩)) (w' := W) (by clear hdep; go_simp) ⟨by simp [hl], hsz, A2, c2, hF.put 9 24 _ (by rw [hsz]; decide) (by simp) (by simp) (by simp), .inl ⟨(by rw [getD_set (by decide)]; exact h10), (fun _ => by rw [getD_set (by decide)]; exact hdep ⟨8, .data⟩ (by simp) rfl), by rw [getD_set (by decide), getD_set (by decide)]; exact hA⟩⟩
    | 10, ho, hn =>
      simp only [List.getElem?_toArray, List.getElem?_cons_zero, List.getElem?_cons_succ, Option.some.injEq] at ho
      subst ho
      refine ⟨rfl, ?_⟩
      obtain ⟨h10, h98, hA⟩ := hW.resolve_right (fun q => by have := q.1 10 (by decide); rw [getD_no hn] at this; cases this)
      have h24 : a.tmps[24]?.getD undef = .pointer (some ⟨p, 2, none⟩) := hF.slot (i := 9) (s := 24) (v := .pointer (some ⟨p, 2, none⟩)) (by simp) (hdep ⟨9, .data⟩ (by simp) rfl)
      have h22 : a.tmps[22]?.getD undef = .slice A2 1 c2 := hF.slot (i := 7) (s := 22) (v := .slice A2 1 c2) (by simp) (hdep ⟨7, .data⟩ (by simp) rfl)
      have h7 : l.getD 7 false = true := hdep ⟨7, .data⟩ (by simp) rfl
      rw [h7] at hA
      obtain ⟨_, _, hD⟩ := hA
      have hD := hD rfl
      have hpp : W.heap[p]? = u.heap[p]? := hD.2.1.block p HPL.out HPV.out
      have xp : W.cell? ⟨p, 2, none⟩ = some (.slice V 0 cV) := by rw [kept_cell_block (p := ⟨p, 2, none⟩) hpp]; exact blk_cell HPB.out 2
      have xz : W.frozen? ⟨p, 2, none⟩ = false := by rw [World.frozen?_of_block (w := u) hpp]; exact blk_free HPB.out 2
      refine owp_skip (w' := W.setCell ⟨p, 2, none⟩ (.slice A2 1 c2)) (by clear hdep; go_simp) ⟨by simp [hl], hsz, A2, c2, hF.skip 10 (by simp), .inr ⟨fun j hj => ?_, W, hD, rfl⟩⟩
      by_cases e : j = 10
      · subst e
        exact getD_set_self hn
      · rw [getD_set e]
        rcases (show j = 0 ∨ j = 1 ∨ j = 2 ∨ j = 3 ∨ j = 4 ∨ j = 5 ∨ j = 6 ∨ j = 7 ∨ j = 8 ∨ j = 9 by omega) with rfl | rfl | rfl | rfl | rfl | rfl | rfl | rfl | rfl | rfl
        · exact hdep ⟨0, .phase⟩ (by simp) rfl
        · exact hdep ⟨1, .phase⟩ (by simp) rfl
        · exact hdep ⟨2, .phase⟩ (by simp) rfl
        · exact hdep ⟨3, .phase⟩ (by simp) rfl
        · exact hdep ⟨4, .phase⟩ (by simp) rfl
        · exact hdep ⟨5, .phase⟩ (by simp) rfl
        · exact hdep ⟨6, .phase⟩ (by simp) rfl
        · exact hdep ⟨7, .phase⟩ (by simp) rfl
        · exact h98 (hdep ⟨9, .data⟩ (by simp) rfl)
        · exact hdep ⟨9, .data⟩ (by simp) rfl
    | i5 + 11, ho, hn => simp at ho
  · intro l a W1 hI hall
    obtain ⟨hl, hsz, A2, c2, hF, hW⟩ := hI
    have hall : ∀ i, i < 11 → l.getD i false = true := hall
    have ha := hF.all (by simp only [List.mem_cons, List.not_mem_nil, or_false]; rintro x (rfl | rfl | rfl | rfl | rfl | rfl | rfl | rfl | rfl | rfl) <;> exact hall _ (by dsimp only; decide)) (by simp) (by rw [hsz]; simp)
    subst ha
    rcases hW with ⟨h10, _, _⟩ | ⟨_, W2, hD, rfl⟩
    · rw [hall 10 (by decide)] at h10
      cases h10
    have HD := Lib.hid hD
    clear hF hall hl hsz hD
    refine hKc _ _ ?_
    simp only [setAll, List.setIfInBounds_toArray, List.set_cons_succ, List.set_cons_zero]
    have HBG := Lib.hid (HX3.out.begin_ (F' := fun k => F k ∨ (b ≤ k ∧ k < W2.heap.size)) HD.out HBW.out (fun k q => .inl q) (.inr ⟨Nat.le_refl _, by have := HD.out.2.1.size; have := HBZ.out; omega⟩) (fun k q r => .inr ⟨by have := HBZ.out; omega, r⟩) (fun k q => by
      rcases q with q | q
      · have := HX3.out.old k q
        have := HD.out.2.1.size
        omega
      · exact q.2))
    have hsz : (W2.setCell ⟨p, 2, none⟩ (.slice A2 1 c2)).heap.size = W2.heap.size := by simp
    have hbyl : by_ < v0.heap.size := lt_heap HBY.out
    have hSS : SSt wb (Or2 X (fun k => k = by_)) (W2.setCell ⟨p, 2, none⟩ (.slice A2 1 c2)) p (S 0) A (some (b, o)) ∧ ∀ k, Or2 X (fun k => k = by_) k → (W2.setCell ⟨p, 2, none⟩ (.slice A2 1 c2)).heap[k]? = v0.heap[k]? := by
      refine SSt.turned (F := F) ⟨cA, B, cB, V, cV, fl, pv, nx, sz, (by rw [HWk.out.cells, HWk.out.len]; exact HX0.out), HR0.out⟩ (fun k q => ⟨(HF1.out k q).1, fun r => (HF1.out k q).2 ?_⟩) (fun k r => ?_) HF3.out ⟨cA, B, cB, A2, c2, fl, pv, nx, sz, (by rw [HWk.out.cells, HWk.out.len]; exact HBG.out.1), HR0.out⟩ ((Kept.of_below HB3b.out _).trans HBG.out.2 fun _ _ r => r) fun k q => ?_
      · rcases r with r | r
        · exact .inl (.inl r)
        · exact .inr r
      · rcases r with r | rfl
        · have := HXL.out k r
          omega
        · omega
      · rcases q with q | ⟨q1, q2⟩
        · exact .inl q
        · exact .inr ⟨Nat.le_trans HBV.out q1, by rw [hsz]; exact q2⟩
    have HS4 := Lib.hid hSS.1
    have HBY4 : Hid ((W2.setCell ⟨p, 2, none⟩ (.slice A2 1 c2)).heap[by_]? = some (.cells #[.func (.yield ly) #[] #[]] 62 (0, 0))) := Lib.hid ((hSS.2 by_ (.inr rfl)).trans HBY.out)
    have HI4 : Hid (I X [] (W2.setCell ⟨p, 2, none⟩ (.slice A2 1 c2))) := Lib.hid (HI.out X [] v0 _ HI0.out (by rw [hsz]; exact Nat.le_trans HB3b.out.size HD.out.2.1.size) fun k q => hSS.2 k (.inl q))
    have hb24 : (W2.setCell ⟨p, 2, none⟩ (.slice A2 1 c2)).heap[b2]? = some (.cells #[.pointer (some ⟨p, 0, none⟩)] 24 (0, 0)) := by
      have hne : b2 ≠ p := fun e => by
        have := HB2u.out
        rw [e, HPB.out] at this
        injection this with this
        injection this with _ this _
        exact absurd this (by decide)
      have hbu := HB2.out W2 HD.out.2.1
      refine (Below.heap_setCell W2 ⟨p, 2, none⟩ _ b2 hne).trans ((HD.out.2.1.block b2 (lt_heap HB2u.out) fun e => ?_).trans HB2u.out)
      exact (HF1.out b2 (HX3.out.mV b2 e)).2 (.inl (.inr (.inl rfl)))
    have HB24 := Lib.hid hb24
    have b20 : (W2.setCell ⟨p, 2, none⟩ (.slice A2 1 c2)).cell? ⟨b2, 0, none⟩ = some (.pointer (some ⟨p, 0, none⟩)) := blk_cell hb24 0
    clear hSS hb24 HBG HD HAP HB2 HP2 HB2u HPB HPV HPL HX3 HX0 HF1 HF2 HF3 HR0 HB2o HB3 HBW HBZ HB3b HBV hsz hbyl HI0 HBY HB0
    generalize W2.setCell ⟨p, 2, none⟩ (.slice A2 1 c2) = v4 at *
    go_wp2_with (first
      | (go_at_call 35
         refine (pbehind_any v4 _ _).mono ?_
         rintro e v5 ⟨rfl, hv5⟩
         have HV5 := Lib.hid hv5
         clear hv5 b20))
    obtain ⟨bp, hbp⟩ : ∃ b, b = v4.heap.size := ⟨_, rfl⟩
    have HBB : Hid (Below v4.heap.size v4 v5) := Lib.hid (by rw [HV5.out]; exact (below_alloc v4 _).alloc (below_alloc v4 _).size _)
    have hz5 : v5.heap.size = bp + 2 := by rw [HV5.out, hbp]; simp
    have HP5 : Hid (v5.heap[bp]? = some (.cells #[.pointer (some ⟨p, 0, none⟩)] 24 (0, 0))) := Lib.hid (by
      rw [HV5.out, hbp]
      exact blk_old (heap_alloc_new v4 _) _)
    have HW5 : Hid (v5.heap[bp + 1]? = some (.cells #[.pointer (some ⟨b, 0, none⟩)] 68 (0, 0))) := Lib.hid (by
      rw [HV5.out, hbp]
      have h := heap_alloc_new (v4.alloc (.cells #[.pointer (some ⟨p, 0, none⟩)] 24)) (.cells #[.pointer (some ⟨b, 0, none⟩)] 68)
      have hz : (v4.alloc (.cells #[.pointer (some ⟨p, 0, none⟩)] 24)).heap.size = v4.heap.size + 1 := by simp
      rwa [hz] at h)
    have HS5 : Hid (SSt wb (Or2 (Or2 X (fun k => k = by_)) (fun k => k = bp ∨ k = bp + 1)) v5 p (S 0) A (some (b, o))) := Lib.hid (HS4.out.more HBB.out fun k hk => by omega)
    have HI5 : Hid (I X [] v5) := Lib.hid (HI.out X [] v4 v5 HI4.out HBB.out.size fun k q => HBB.out.block k (HS4.out.lt k (.inl q)))
    have HBY5 : Hid (v5.heap[by_]? = some (.cells #[.func (.yield ly) #[] #[]] 62 (0, 0))) := Lib.hid ((HBB.out.block by_ (lt_heap HBY4.out)).trans HBY4.out)
    have hlt4 : ∀ k, Or2 X (fun k => k = by_) k → k < bp := fun k q => by rw [hbp]; exact HS4.out.lt k q
    have HLT := Lib.hid hlt4
    have hBYX : ¬ X by_ := fun q => by have := HXL.out by_ q; omega
    rw [← hbp]
    clear HV5 HBB HS4 HI4 HBY4 hlt4 hbp HB24
    have HWB : Hid (wb.heap.size ≤ v5.heap.size) := Lib.hid HS5.out.below.size
    refine (wpIn_wide (n := 12)).1 ?_
    refine wpIn_rangeFunc_U (γ := Nat × Nat) (α := Nat) (n := 12) rfl (by omega) (gf := 38) (lb := #[.pointer (some ⟨bp, 0, none⟩), .pointer (some ⟨bp + 1, 0, none⟩)]) rfl trivial (fun args w => enters_of Try.func38 (by kernel_rfl) rfl args w)
      (pbehind_it wb p L S pl m n o HWk.out hm hn A b bp (bp + 1)) (fun _ => rfl) (Or2 X (fun k => k = by_)) (fun k => k = v5.heap.size ∨ k = v5.heap.size + 1) (fun k q => by have := HLT.out k q; omega) rfl
      ?hY ?hA ?hZd ?hZs ?hZ0
      (fun Xi pre U => ∃ Xc, Xi = Or2 Xc (fun k => k = by_) ∧ ¬ Xc by_ ∧ I Xc pre U ∧ U.heap[by_]? = some (.cells #[.func (.yield ly) #[] #[]] 62 (0, 0)))
      (fun c Xi pre U => c = .ret ∧ ∃ Xc, Xi = Or2 Xc (fun k => k = by_) ∧ Ix Xc pre U)
      ?hI ?hIx ⟨X, rfl, hBYX, HI5.out, HBY5.out⟩ (fun x => { tmps := #[.func (.yield ly) #[] #[], .pointer (some ⟨b2, 0, none⟩), .pointer (some ⟨b3, 0, none⟩), .pointer (some ⟨by_, 0, none⟩), .pointer (some ⟨b, 0, none⟩), .int .i64 (x : Int), .pointer (some ⟨p, 0, none⟩), .int .i64 (i : Int), .bool true, .bool false, .pointer (some ⟨p, 0, none⟩), .int .i64 (i : Int), .int .i64 (o : Int), .agg #[.int .i64 (o : Int)], .pointer (some ⟨b, 0, none⟩), .pointer (some ⟨p, 0, none⟩), .pointer (some ⟨p, 0, none⟩), .pointer (some ⟨p, 0, none⟩), .pointer (some ⟨p, 2, none⟩), .slice V 0 cV, .pointer (some ⟨b, 0, none⟩), .slice (some ⟨u.heap.size, 0, none⟩) 1 1, .slice A2 1 c2, .pointer (some ⟨p, 0, none⟩), .pointer (some ⟨p, 2, none⟩), .pointer (some ⟨p, 0, none⟩), .pointer (some ⟨b, 0, none⟩), .pointer (some ⟨p, 0, none⟩), .pointer (some ⟨b, 0, none⟩), .func (.func 38) #[] #[.pointer (some ⟨bp, 0, none⟩), .pointer (some ⟨bp + 1, 0, none⟩)], .int .i64 (x : Int), undef, undef, undef, undef], defers := [] }) ?assign ?body ?done ?stop
    case hY => exact fun g X1 pre x U l1 o1 h1 h2 h3 => ⟨h3.1, h3.2.put (Nat.le_trans HWB.out h1) h2 o1⟩
    case hA => exact fun g X1 pre U l1 o1 h1 h2 h3 => SSt.put h3 (Nat.le_trans HWB.out h1) h2 o1
    case hZd => exact fun X1 pre U l1 o1 h1 h2 h3 => ⟨h3.1, h3.2.put (Nat.le_trans HWB.out h1) h2 o1⟩
    case hZs =>
      rintro X1 pre U l1 o1 h1 h2 ⟨h3, a, h4⟩
      exact ⟨h3, a, h4.put (Nat.le_trans HWB.out h1) h2 o1⟩
    case hZ0 =>
      intro o1
      have hb2 : Below v5.heap.size v5 ((v5.alloc (.deferred (some []))).alloc o1) := (below_alloc v5 _).alloc (below_alloc v5 _).size _
      refine ⟨(HS5.out.more (Y := fun k => k = v5.heap.size ∨ k = v5.heap.size + 1) hb2 fun k hk => by simp; omega).less fun k hk => ?_, fun k hk hx => ?_, (hb2.block bp (lt_heap HP5.out)).trans HP5.out, (hb2.block (bp + 1) (lt_heap HW5.out)).trans HW5.out⟩
      · rcases hk with (hk | hk) | hk
        · exact .inl (.inl hk)
        · exact .inr hk
        · exact .inl (.inr hk)
      · have hp5 := lt_heap HW5.out
        rcases hx with hx | hx
        · have := HLT.out k hx
          omega
        · omega
    case hI =>
      rintro Xi s1 U U' ⟨Xc, rfl, h1, h2, h3⟩ hs hk
      exact ⟨Xc, rfl, h1, HI.out Xc s1 U U' h2 hs fun k q => hk k (.inl q), (hk by_ (.inr rfl)).trans h3⟩
    case hIx =>
      rintro c Xi s1 U U' ⟨rfl, Xc, rfl, h2⟩ hs hk
      exact ⟨rfl, Xc, rfl, HIx.out Xc s1 U U' h2 hs fun k q => hk k (.inl q)⟩
    case assign =>
      intro l1 x U K hK
      unfold nEnc
      gi_wp2
      simpa using hK
    case body =>
      rintro lk g Xi K pre x U ⟨Xc, rfl, hn1, hi1, hb1⟩ hy hK
      have hy' := hy
      rw [or2_assoc] at hy'
      have xby : U.cell? ⟨by_, 0, none⟩ = some (.func (.yield ly) #[] #[]) := blk_cell hb1 0
      obtain ⟨fn, tmps, assign, body, hyl, hR⟩ := YieldAt.wide_any (l0 := lk) (k' := 9) (HY.out g Xc (Or2 (fun k => k = by_) K) pre x U hi1 hy' (fun k q r => by
        rcases q with rfl | q
        · exact hn1 r
        · exact hK k q (.inl r)))
      dsimp only [nEnc] at hyl
      have HR := Lib.hid hR
      have HB1 := Lib.hid hb1
      have HKK := Lib.hid hK
      clear hR hy hy' hb1 hi1 hn1 hK
      gi_wp2_with fail
      refine HR.out.mono ?_
      rintro e W3 (⟨rfl, X', h1, h2, h3⟩ | ⟨rfl, X', h1, h2, h3⟩)
      · have HJ1 := Lib.hid h1
        have HJ2 := Lib.hid h2
        have HJ3 := Lib.hid h3
        clear h1 h2 h3 hyl xby
        gi_wp2
        refine ⟨Or2 X' (fun k => k = by_), ⟨X', rfl, (HJ3.out by_ (.inl rfl)).1, HJ1.out, (HJ3.out by_ (.inl rfl)).2.trans HB1.out⟩, by rw [or2_assoc]; exact HJ2.out, fun k q => ⟨fun r => ?_, (HJ3.out k (.inr q)).2⟩⟩
        rcases r with r | r
        · exact (HJ3.out k (.inr q)).1 r
        · exact HKK.out k q (.inr r)
      · have HJ1 := Lib.hid h1
        have HJ2 := Lib.hid h2
        have HJ3 := Lib.hid h3
        clear h1 h2 h3 hyl xby
        gi_wp2
        refine ⟨Or2 X' (fun k => k = by_), ⟨rfl, X', rfl, HJ1.out⟩, by rw [or2_assoc]; exact HJ2.out, fun k q => ⟨fun r => ?_, (HJ3.out k (.inr q)).2⟩⟩
        rcases r with r | r
        · exact (HJ3.out k (.inr q)).1 r
        · exact HKK.out k q (.inr r)
    case done =>
      rintro Xi xs U ⟨Xc, rfl, hn1, hi1, hb1⟩ hz hd hK
      gi_wp2
      refine ⟨by simp, .inl ⟨_, _, rfl, run_takeDeferred hK, ?_⟩⟩
      have hs2 := hz.2.put (l := v5.heap.size) HWB.out (.inr (.inl rfl)) (.deferred none)
      refine ⟨by simp, .inr ⟨fun h => (by cases h), .func 34, #[], 34, #[.pointer (some ⟨p, 0, none⟩), .pointer (some ⟨b, 0, none⟩)], rfl, ?_, fun _ _ => trivial, ?_⟩⟩
      · simp [invoke, go_sem]
      refine hs2.leave.mono ?_
      rintro e u' U2 ⟨rfl, rfl, hs3, hsz3, hk3⟩
      have hsz : (U.putObj v5.heap.size (.deferred none)).heap.size = U.heap.size := by simp [World.putObj]
      have hU2 : ∀ k, Xc k → U2.heap[k]? = U.heap[k]? := fun k q => (hk3 k (.inl (.inl q))).trans (World.putObj_heap_other fun e => hd k (.inl e) (.inl q))
      have hUs : U.heap.size ≤ U2.heap.size := by
        rw [← hsz]
        exact hsz3
      refine ⟨_, results_none rfl _ _ _, ⟨_, rfl⟩, .inl ⟨Xc, xs, HI.out Xc xs U U2 hi1 hUs hU2, hz.1, A, hs3.less fun k q => .inl (.inl q)⟩⟩
    case stop =>
      rintro c Xi pre U ⟨rfl, Xc, rfl, hi1⟩ ⟨hpre, aa, hz⟩ hd hK
      gi_wp2
      refine ⟨by simp, .inl ⟨_, _, rfl, run_takeDeferred hK, ?_⟩⟩
      have hs2 := hz.put (l := v5.heap.size) HWB.out (.inr (.inl rfl)) (.deferred none)
      refine ⟨by simp, .inr ⟨fun h => (by cases h), .func 34, #[], 34, #[.pointer (some ⟨p, 0, none⟩), .pointer (some ⟨b, 0, none⟩)], rfl, ?_, fun _ _ => trivial, ?_⟩⟩
      · simp [invoke, go_sem]
      refine hs2.leave.mono ?_
      rintro e u' U2 ⟨rfl, rfl, hs3, hsz3, hk3⟩
      have hsz : (U.putObj v5.heap.size (.deferred none)).heap.size = U.heap.size := by simp [World.putObj]
      have hU2 : ∀ k, Xc k → U2.heap[k]? = U.heap[k]? := fun k q => (hk3 k (.inl (.inl q))).trans (World.putObj_heap_other fun e => hd k (.inl e) (.inl q))
      have hUs : U.heap.size ≤ U2.heap.size := by
        rw [← hsz]
        exact hsz3
      refine ⟨_, results_none rfl _ _ _, ⟨_, rfl⟩, .inr ⟨Xc, pre, HIx.out Xc pre U U2 hi1 hUs hU2, hpre, A, hs3.less fun k q => .inl (.inl q)⟩⟩

end Go.Proofs.Ythlnhkkjpjbmeaa
