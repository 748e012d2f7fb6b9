/- Stage 18: the landed Where; the landed permutations. -/
import Derived.Test.YtdeghjhlbhpopaaPqv
import Derived.Test.YtdeghjhlbhpopaaPqw
import Derived.Test.YtdeghjhlbhpopaaPqe
namespace Go.Proofs.Ytdeghjhlbhpopaa
set_option maxRecDepth 100000
open Go.RowKit Go.Shelf
attribute [local go_sem] Oper.semAt_some
def pg : Nat := 24
theorem pslots_all (p : Pe) (w : World) : Calls Try.prog 19 #[.agg p.cells] w fun e w' => ∃ lb Fi, e = .returned (.func (.func pg) #[] lb) ∧ Below w.heap.size w w' ∧ (∀ k, Fi k → k < w'.heap.size ∧ w.heap.size ≤ k) ∧ ItQ slEnc pg lb p.list Fi w' := by
  refine (pslots_any w p).mono ?_
  rintro e w' ⟨rfl, rfl⟩
  refine ⟨_, fun k => k = w.heap.size, rfl, below_alloc w _, fun k hk => ?_, fun R hR => pslots_it _ p R _ (hR _ rfl) (heap_alloc_new w _)⟩
  have : (w.alloc (.cells #[.int .i64 p.o, .int .i64 p.k, .int .i64 p.m] 23)).heap.size = w.heap.size + 1 := by simp
  omega
theorem results_i1 {fn : Func} {p : Tmp} (h : fn.results = #[.cell p 3]) (tmps : Array Value) (w : World) (g : Nat) (a : Int) (hp : tmps.getD p undef = .pointer (some ⟨g, 0, none⟩)) (hc : w.cell? ⟨g, 0, none⟩ = some (.int .i64 a)) : (results fn tmps).run Try.prog w = .ok (.int .i64 a) w := by
  have hp' : tmps[p]?.getD undef = .pointer (some ⟨g, 0, none⟩) := by simpa using hp
  have hu := Try.underlying3
  simp only [results, h]
  go_simp
/-- None of the first ones is the slot; the slot stands at a place. -/
theorem wh_list {p : Pe} {s : Int} : (∀ x ∈ p.list, (x : Int) ≠ s) → p.whV s = -1 := fun h => by
  refine Pe.wh_no fun x hx => ?_
  obtain ⟨h1, h2, h3⟩ := hx
  obtain ⟨o, k, m, hok⟩ := Pe.ok_of h1
  rw [hok.em] at h2
  rw [hok.eo, hok.ek, hok.em] at h3
  have h3 : (slN o k m x : Int) = s := h3
  refine h (slN o k m x) ?_ h3
  rw [hok.list_]
  exact List.mem_iff_getElem?.2 ⟨x, slL_at (by omega)⟩
theorem wh_pre {p : Pe} {s : Int} {pre : List Nat} {x : Nat} (h : pre ++ [x] <+: p.list) (hx : (x : Int) = s) : p.whV s = (pre.length : Int) := by
  cases hm : p.may with
  | false =>
    have hl : p.list = [] := by unfold Pe.list; rw [hm]; rfl
    rw [hl] at h
    have := h.length_le
    rw [List.length_append] at this
    simp at this
  | true =>
    obtain ⟨o, k, m, hok⟩ := Pe.ok_of hm
    rw [hok.list_] at h
    have h1 := h.length_le
    rw [List.length_append, List.length_singleton, slL_len] at h1
    have h2 : (slL o k m)[pre.length]? = some x := by
      obtain ⟨t, ht⟩ := h
      rw [← ht, List.append_assoc, List.getElem?_append_right (Nat.le_refl _), Nat.sub_self]
      rfl
    rw [slL_at (by omega)] at h2
    injection h2 with h2
    rw [← hx, ← h2]
    exact hok.wh (by omega)
set_option maxHeartbeats 2000000 in
theorem pwhere_any (p : Pe) (s : Int) (w : World) (hL : p.list.length ≤ 65537) : Calls Try.prog 13 #[.agg #[.int .i64 p.o, .int .i64 p.k, .int .i64 p.m], .int .i64 s] w (ret (.int .i64 (p.whV s)) w) := by
  have eg := pslots_eg
  have HSL := Lib.hid fun W => pslots_all p W
  have HWL := Lib.hid (@wh_list p s)
  have HWP := Lib.hid fun pre x => @wh_pre p s pre x
  obtain ⟨L, hLL⟩ : ∃ L, L = p.list := ⟨_, rfl⟩
  rw [← hLL] at HSL HWL HWP hL
  obtain ⟨V, hV⟩ : ∃ V, V = p.whV s := ⟨_, rfl⟩
  rw [← hV] at HWL HWP ⊢
  have HM0 : Hid (Mem w (((w.alloc (.cells #[.int .i64 p.o, .int .i64 p.k, .int .i64 p.m] 23)).alloc (.cells #[.int .i64 s] 3)).alloc (.cells #[.int .i64 0] 3)) [(w.heap.size, .cells #[.int .i64 p.o, .int .i64 p.k, .int .i64 p.m] 23 (0, 0)), (w.heap.size + 1, .cells #[.int .i64 s] 3 (0, 0)), (w.heap.size + 2, .cells #[.int .i64 0] 3 (0, 0))]) := Lib.hid (by
    have h := (((Mem.nil w).alloc (.cells #[.int .i64 p.o, .int .i64 p.k, .int .i64 p.m] 23)).alloc (.cells #[.int .i64 s] 3)).alloc (.cells #[.int .i64 0] 3)
    simpa using h)
  clear hLL hV
  refine (callsIn_wide (n := 13)).1 ?_
  refine callsIn_of_wp_marks Try.func13 rfl trivial ?_ rfl
  refine wpIn_wide.2 ?_
  simp only [Try.ntmps13, List.size_toArray, List.length_cons, List.length_nil, Nat.reduceAdd, Nat.reduceSub, Array.replicate_succ, Array.replicate_zero, List.push_toArray, List.append_toArray, List.nil_append, List.cons_append]
  go_upto_region 1 with fail
  change Code.wp _ _ _ _ (((w.alloc (.cells #[.int .i64 p.o, .int .i64 p.k, .int .i64 p.m] 23)).alloc (.cells #[.int .i64 s] 3)).alloc (.cells #[.int .i64 0] 3))
  generalize ((w.alloc (.cells #[.int .i64 p.o, .int .i64 p.k, .int .i64 p.m] 23)).alloc (.cells #[.int .i64 s] 3)).alloc (.cells #[.int .i64 0] 3) = u1 at *
  obtain ⟨b2, hb2⟩ : ∃ b, b = w.heap.size := ⟨_, rfl⟩
  obtain ⟨b3, hb3⟩ : ∃ b, b = w.heap.size + 1 := ⟨_, rfl⟩
  obtain ⟨b4, hb4⟩ : ∃ b, b = w.heap.size + 2 := ⟨_, rfl⟩
  rw [← hb4, ← hb3, ← hb2] at HM0
  rw [← hb4, ← hb3, ← hb2]
  have HB24 : Hid (w.heap.size ≤ b2 ∧ b2 < b3 ∧ b3 < b4) := Lib.hid (by omega)
  clear hb2 hb3 hb4
  go_upto_region 2 with fail
  change Code.wp _ _ _ _ (u1.alloc (.cells #[.int .i64 0] 3))
  have HM1 := Lib.hid (HM0.out.alloc (.cells #[.int .i64 0] 3))
  obtain ⟨b5, hb5⟩ : ∃ b, b = u1.heap.size := ⟨_, rfl⟩
  rw [← hb5] at HM1
  rw [← hb5]
  have HB45 : Hid (b4 < b5) := Lib.hid (by rw [hb5]; exact lt_heap (HM0.out.get 2 rfl))
  clear hb5 HM0
  generalize u1.alloc (.cells #[.int .i64 0] 3) = u2 at *
  have x0 := blk_cell (HM1.out.get 0 rfl) 0
  have x1 := blk_cell (HM1.out.get 0 rfl) 1
  have x2 := blk_cell (HM1.out.get 0 rfl) 2
  go_wp2_with (first
    | (go_at_call 19
       refine (HSL.out _).mono ?_
       rintro e v ⟨lb, Fi, rfl, hb, hFi, hst⟩
       have HM2 := Lib.hid (HM1.out.step hb)
       have HFI : Hid (∀ k, Fi k → k < v.heap.size ∧ b5 < k) := Lib.hid fun k hk => ⟨(hFi k hk).1, Nat.lt_of_lt_of_le (lt_heap (HM1.out.get 3 rfl)) (hFi k hk).2⟩
       have HST := Lib.hid hst
       clear hb hFi hst x0 x1 x2))
  refine (wpIn_wide (n := 13)).1 ?_
  have hRb : ∀ k, Fi k → ¬ (k = b5 ∨ v.heap.size ≤ k) := fun k hk hr => by
    have h1 := HFI.out k hk
    omega
  refine wpIn_rangeFunc_ownF rfl (by omega) (gf := pg) (lb := lb) rfl trivial eg (HST.out (fun k => k = b5 ∨ v.heap.size ≤ k) hRb) keptK_t (keptK_b fun _ h => .inr h) (Below.refl _ _) (fun _ => rfl)
    (fun pre W => W.heap[b5]? = some (.cells #[.int .i64 (pre.length : Int)] 3 (0, 0)) ∧ (∀ x ∈ pre, (x : Int) ≠ s) ∧ Kept (fun k => k = b5) v W)
    (fun cc pre W => cc = .ret ∧ W.heap[b4]? = some (.cells #[.int .i64 ((pre.length : Int) - 1)] 3 (0, 0)) ∧ (∃ (pre' : List Nat) (x : Nat), pre = pre' ++ [x] ∧ (x : Int) = s) ∧ Kept (fun k => k = b4 ∨ k = b5) v W)
    ?hI ?hIx ?h0 (fun x => { tmps := #[.agg #[.int .i64 p.o, .int .i64 p.k, .int .i64 p.m], .int .i64 s, .pointer (some ⟨b2, 0, none⟩), .pointer (some ⟨b3, 0, none⟩), .pointer (some ⟨b4, 0, none⟩), .pointer (some ⟨b5, 0, none⟩), .int .i64 (x : Int), .agg #[.int .i64 p.o, .int .i64 p.k, .int .i64 p.m], .func (.func pg) #[] lb, .int .i64 (x : Int), undef, undef, undef, undef, undef, undef], defers := [] }) ?assign ?body ?done ?stop
  case assign =>
    intro l x W K hK
    unfold slEnc
    gi_wp2
    simpa using hK
  case hI =>
    rintro pre X Y row ⟨h1, h2, h3⟩ hg hr
    exact ⟨(grownBy_keeps_cells hg (fun r e => (hr r e).2) h1 rfl).trans h1, h2, kept_oldQ h3 (Kept.grownBy (R := fun k => v.heap.size ≤ k) hg fun k e => (hr k e).1)⟩
  case hIx =>
    rintro cc pre X Y row ⟨h0, h1, h2, h3⟩ hg hr
    exact ⟨h0, (grownBy_keeps_cells hg (fun r e => (hr r e).2) h1 rfl).trans h1, h2, kept_oldQ h3 (Kept.grownBy (R := fun k => v.heap.size ≤ k) hg fun k e => (hr k e).1)⟩
  case h0 => exact ⟨HM2.out.get 3 rfl, (fun _ h => absurd h List.not_mem_nil), Kept.refl _ _⟩
  case body =>
    rintro l' pre x W ⟨hq, hno, hk⟩ hpl
    have HK := Lib.hid hk
    have HNO := Lib.hid hno
    have h3l := lt_heap (HM2.out.get 1 rfl)
    have h4l := lt_heap (HM2.out.get 2 rfl)
    have h5l := lt_heap (HM2.out.get 3 rfl)
    have HNE : Hid (b3 ≠ b5 ∧ b4 ≠ b5) := Lib.hid (by have := HB45.out; have := HB24.out; omega)
    have hq3 := (hk.block b3 h3l HNE.out.1).trans (HM2.out.get 1 rfl)
    have hq4 := (hk.block b4 h4l HNE.out.2).trans (HM2.out.get 2 rfl)
    have x3 := blk_cell hq3 0
    have HQ4 := Lib.hid hq4
    have HQ5 := Lib.hid hq
    have x4 := blk_cell hq4 0
    have y4 := blk_free hq4 0
    have x5 := blk_cell hq 0
    have y5 := blk_free hq 0
    obtain ⟨n, hn⟩ : ∃ n, n = pre.length := ⟨_, rfl⟩
    have HNN := Lib.hid hn
    rw [← hn] at x5 hpl
    rw [← hn] at HQ5
    clear hno hk h3l h4l h5l hq3 hq4 hq hn
    by_cases hx : (x : Int) = s
    · gi_wp2
      refine ⟨KeepsOthers.setCell _ _ _, rfl, ?_, ⟨_, _, rfl, hx⟩, ?_⟩
      · have h := blk_set HQ4.out 0 (.int .i64 (n : Int))
        rw [List.length_append, List.length_singleton, ← HNN.out]
        have e : (((n + 1 : Nat) : Int) - 1) = (n : Int) := by omega
        rw [e]
        exact h
      · exact ((Kept.refl (fun k => k = b4 ∨ k = b5) v).trans HK.out fun _ _ q => .inr q).trans ((Kept.refl (fun k => k = b4) W).setCell (p := ⟨b4, 0, none⟩) (.inl rfl) (.int .i64 (n : Int))) fun _ _ q => .inl q
    · have zw : IntKind.i64.wrap ((n : Int) + 1) = (n : Int) + 1 := by rw [IntKind.wrap_i64]; omega
      gi_wp2
      have h := blk_set HQ5.out 0 (.int .i64 ((n : Int) + 1))
      have hkk : Kept (fun k => k = b5) W (W.setCell ⟨b5, 0, none⟩ (.int .i64 ((n : Int) + 1))) := (Kept.refl (fun k => k = b5) W).setCell (p := ⟨b5, 0, none⟩) (.inl rfl) _
      refine ⟨KeepsOthers.setCell _ _ _, (Kept.refl _ W).trans hkk fun _ _ q => .inl q, ?_, ?_, HK.out.trans hkk fun _ _ q => q⟩
      · rw [List.length_append, List.length_singleton, ← HNN.out]
        exact h
      · intro y hy
        rcases List.mem_append.1 hy with q | q
        · exact HNO.out y q
        · rw [List.mem_singleton.1 q]
          exact hx
  case done =>
    rintro D xs W hD rfl ⟨hq, hno, hk⟩ hK
    have HB := Lib.hid (HM2.out.below.trans (hk.below HM2.out.below.size fun k e => by rw [e]; exact HM2.out.low 3 rfl))
    have HK := Lib.hid hK
    obtain rfl := HWL.out hno
    have HWD : Hid (w.heap.size ≤ D) := Lib.hid (Nat.le_trans HM2.out.below.size hD)
    have hq4 := (hk.block b4 (lt_heap (HM2.out.get 2 rfl)) (by have := HB45.out; omega)).trans (HM2.out.get 2 rfl)
    have HQ4 := Lib.hid hq4
    have x4 := blk_cell hq4 0
    have y4 := blk_free hq4 0
    clear hq hk hK hq4
    go_wp2_with fail
    have h := blk_set HQ4.out 0 (.int .i64 (-1))
    have H4 := Lib.hid h
    have HB4 := Lib.hid (HB.out.setCell (p := ⟨b4, 0, none⟩) (HM2.out.low 2 rfl) (.int .i64 (-1)))
    have HK5 : Hid ((W.setCell ⟨b4, 0, none⟩ (.int .i64 (-1))).heap[D]? = some (.deferred (some []))) := Lib.hid ((Below.heap_setCell W ⟨b4, 0, none⟩ (.int .i64 (-1)) D (by have := lt_heap (HM2.out.get 2 rfl); show D ≠ b4; omega)).trans HK.out)
    replace HK := HK5
    clear h x4 y4
    generalize W.setCell ⟨b4, 0, none⟩ (.int .i64 (-1)) = W1 at *
    have hkD : (W1.putObj D (.deferred none)).heap[b4]? = W1.heap[b4]? := World.putObj_heap_other fun e => by
      have := lt_heap (HM2.out.get 2 rfl)
      omega
    refine ⟨by simp, .inl ⟨_, _, rfl, run_takeDeferred HK.out, ?_⟩⟩
    exact ⟨_, results_i1 Try.results13 _ _ b4 (-1) rfl (blk_cell (hkD.trans H4.out) 0), rfl, HB4.out.trans (belowK_b (w := w) (Nat.le_refl _) W1 D _ _ HWD.out HK.out rfl rfl)⟩
  case stop =>
    rintro D cc pre W hD hpre ⟨rfl, hq, ⟨pre', x, rfl, hx⟩, hk⟩ hK
    have HK := Lib.hid hK
    obtain rfl := HWP.out _ _ hpre hx
    have HB := Lib.hid (HM2.out.below.trans (hk.below HM2.out.below.size fun k e => by rcases e with e | e <;> rw [e]; exact HM2.out.low 2 rfl; exact HM2.out.low 3 rfl))
    have HWD : Hid (w.heap.size ≤ D) := Lib.hid (Nat.le_trans HM2.out.below.size hD)
    have HQ4 := Lib.hid hq
    clear hq hk hK hpre
    gi_wp2
    have H4 : Hid (W.heap[b4]? = some (.cells #[.int .i64 (pre'.length : Int)] 3 (0, 0))) := Lib.hid (by
      have h := HQ4.out
      rw [List.length_append, List.length_singleton] at h
      have e : (((pre'.length + 1 : Nat) : Int) - 1) = (pre'.length : Int) := by omega
      rwa [e] at h)
    have HB4 := HB
    have hkD : (W.putObj D (.deferred none)).heap[b4]? = W.heap[b4]? := World.putObj_heap_other fun e => by
      have := lt_heap (HM2.out.get 2 rfl)
      omega
    refine ⟨by simp, .inl ⟨_, _, rfl, run_takeDeferred HK.out, ?_⟩⟩
    exact ⟨_, results_i1 Try.results13 _ _ b4 (pre'.length : Int) rfl (blk_cell (hkD.trans H4.out) 0), rfl, HB4.out.trans (belowK_b (w := w) (Nat.le_refl _) W D _ _ HWD.out HK.out rfl rfl)⟩
theorem pelist_le (p : Pe) : p.list.length ≤ 65537 := by
  cases hm : p.may with
  | false =>
    have hl : p.list = [] := by unfold Pe.list; rw [hm]; rfl
    rw [hl]
    simp
  | true =>
    obtain ⟨o, k, m, hok⟩ := Pe.ok_of hm
    rw [hok.list_, slL_len]
    exact (szP_le hok.sz).2.1
theorem peP : PeP pg where
  eg := pslots_eg
  of := peof_any
  may := pemay_any
  at_ := peat_any
  wh := fun p s w => pwhere_any p s w (pelist_le p)
  slots := pslots_all
end Go.Proofs.Ytdeghjhlbhpopaa
