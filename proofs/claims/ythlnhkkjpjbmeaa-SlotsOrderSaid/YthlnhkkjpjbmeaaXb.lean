/- Stage 10: what lists tell: of slots, and of what is none. -/
import Derived.Test.YthlnhkkjpjbmeaaXa
namespace Go.Proofs.Ythlnhkkjpjbmeaa
set_option maxRecDepth 100000
open Go.RowKit Go.Shelf
attribute [local go_sem] Oper.semAt_some
/-- A list that is none is told as empty. -/
theorem pof_none (Zp : (Nat → Prop) → World → Prop) (pa : Option Addr) (l : Int) (hstep : ∀ X W W', Zp X W → Below W.heap.size W W' → Zp X W') (hless : ∀ X X' W, Zp X W → (∀ k, X' k → X k) → Zp X' W) (hlt : ∀ X W, Zp X W → ∀ k, X k → k < W.heap.size)
    (hL : ∀ X W, Zp X W → Calls Try.prog 25 #[.pointer pa, .int .i64 l] W (ret (.bool false) W)) (b2 b3 : Nat) (Y : Nat × Nat → (Nat → Prop) → List Nat → Nat → World → Prop) (Am : Nat × Nat → (Nat → Prop) → List Nat → World → Prop) (Zs : (Nat → Prop) → List Nat → World → Prop) :
    SeqU Fence.wide 12 Try.prog 33 #[.pointer (some ⟨b2, 0, none⟩), .pointer (some ⟨b3, 0, none⟩)] nEnc
      (fun X W => Zp (Or2 X (fun k => k = b2 ∨ k = b3)) W ∧ (∀ k, (k = b2 ∨ k = b3) → ¬ X k) ∧ W.heap[b2]? = some (.cells #[.pointer pa] 24 (0, 0)) ∧ W.heap[b3]? = some (.cells #[.int .i64 l] 3 (0, 0))) Y Am (fun X xs W => xs = [] ∧ Zp X W) Zs := fun ly I Ix X W hI hIx hZ hI0 hY => by
  obtain ⟨hz, hKX, hb2, hb3⟩ := hZ
  have HI := Lib.hid hI
  have HI0 := Lib.hid hI0
  have HXL : Hid (∀ k, X k → k < W.heap.size) := Lib.hid fun k q => hlt _ _ hz k (.inl q)
  have HB0 : Hid (Below W.heap.size W (W.alloc (.cells #[.func (.yield ly) #[] #[]] 62))) := Lib.hid (below_alloc W _)
  have HZ0 := Lib.hid (hstep _ _ _ hz HB0.out)
  have HL0 := Lib.hid (hL _ _ HZ0.out)
  have HST := Lib.hid hstep
  have HLS := Lib.hid hless
  have b20 : (W.alloc (.cells #[.func (.yield ly) #[] #[]] 62)).cell? ⟨b2, 0, none⟩ = some (.pointer pa) := blk_cell (blk_old hb2 _) 0
  have b30 : (W.alloc (.cells #[.func (.yield ly) #[] #[]] 62)).cell? ⟨b3, 0, none⟩ = some (.int .i64 l) := blk_cell (blk_old hb3 _) 0
  clear hI hIx hY hz hKX hb2 hb3 hI0 hstep hless hlt hL
  refine callsIn_of_wp_marks Try.func33 rfl trivial ?_ rfl
  refine wpIn_wide.2 ?_
  simp only [Try.ntmps33, List.size_toArray, List.length_cons, List.length_nil, Nat.reduceAdd, Nat.reduceSub, Array.replicate_succ, Array.replicate_zero, List.push_toArray, List.append_toArray, List.nil_append, List.cons_append]
  go_upto_region 1 with fail
  change Code.wp _ _ _ _ (W.alloc (.cells #[.func (.yield ly) #[] #[]] 62))
  generalize W.alloc (.cells #[.func (.yield ly) #[] #[]] 62) = v0 at *
  go_wp2_with (first
    | (go_at_call 25
       refine HL0.out.mono ?_
       rintro e v1 ⟨rfl, hb⟩
       have HB1 := Lib.hid hb
       clear hb b20 b30))
  have hb := HB0.out.trans (HB1.out.mono HB0.out.size)
  exact ⟨_, results_none rfl _ _ _, ⟨_, rfl⟩, .inl ⟨X, [], HI.out X [] W v1 HI0.out hb.size fun k q => hb.block k (HXL.out k q), rfl, HLS.out _ _ _ (HST.out _ _ _ HZ0.out HB1.out) fun k q => .inl q⟩⟩
theorem Ch.nth {nx pv : Nat → Nat} {b o : Nat} : ∀ {a : Nat} {l : List Nat}, Ch nx pv a l b → ∀ (j x : Nat), l[j]? = some x → nx (((a :: l)[j]?).getD o) = x
  | _, [], _, j, x, h => by simp at h
  | _, y :: t, hc, 0, x, h => by
    have h : y = x := by simpa using h
    subst h
    exact hc.1
  | _, y :: t, hc, j + 1, x, h => Ch.nth (a := y) (l := t) hc.2.2 j x (by simpa using h)
theorem Ch.fin {nx pv : Nat → Nat} {b o : Nat} : ∀ {a : Nat} {l : List Nat}, Ch nx pv a l b → nx (((a :: l)[l.length]?).getD o) = b
  | _, [], h => h.1
  | _, y :: t, h => Ch.fin (a := y) (l := t) h.2.2
theorem walk_same {s : Sl} (hs : s.Ok) {i : Nat} (hi : i < s.ls.length) : Walk (s.at_ i) (fun _ => s) (fun j => (((s.cells + i) :: s.at_ i)[j]?).getD (s.cells + i)) s.cells s.ls.length (s.cells + i) := by
  refine ⟨fun _ => rfl, fun _ => rfl, fun _ => hs, rfl, fun j => ?_, by omega, fun j x h fl pv nx sz hr => (hr.ring i hi).nth j x h, fun fl pv nx sz hr => (hr.ring i hi).fin, fun x hx => hs.low i x hx, by omega⟩
  show _ < s.cells + s.ls.length
  cases h : ((s.cells + i) :: s.at_ i)[j]? with
  | none => show s.cells + i < _; omega
  | some x =>
    show x < _
    rcases List.mem_cons.1 (List.mem_of_getElem? h) with rfl | h
    · omega
    · have := hs.low i x h
      omega
theorem ok_drop {s : Sl} (hs : s.Ok) {i : Nat} (hi : i < s.ls.length) (j : Nat) : (s.put i ((s.at_ i).drop j)).Ok :=
  Sl.ok_put hs hi ((hs.nodup i).sublist (List.drop_sublist _ _)) (fun c hc => hs.low i c (List.mem_of_mem_drop hc)) fun _c _k hc hk => hs.one _ _ _ hk (List.mem_of_mem_drop hc)
theorem walk_cut {s : Sl} (hs : s.Ok) {i : Nat} (hi : i < s.ls.length) : Walk (s.at_ i) (fun j => s.put i ((s.at_ i).drop j)) (fun _ => s.cells + i) s.cells s.ls.length (s.cells + i) := by
  have hring : ∀ j fl pv nx sz, SRep (s.put i ((s.at_ i).drop j)) fl pv nx sz → nx (s.cells + i) = hdOr ((s.at_ i).drop j) (s.cells + i) := fun j fl pv nx sz hr => by
    have := (hr.ring i (by rw [Sl.put_len]; exact hi)).first
    rw [Sl.at_put hi, if_pos rfl] at this
    exact this
  refine ⟨fun _ => rfl, fun _ => Sl.put_len .., fun j => ok_drop hs hi j, rfl, fun j => by omega, by omega, fun j x h fl pv nx sz hr => ?_, fun fl pv nx sz hr => ?_, fun x hx => hs.low i x hx, by omega⟩
  · rw [hring j fl pv nx sz hr]
    obtain ⟨hj, e⟩ := List.getElem?_eq_some_iff.1 h
    rw [List.drop_eq_getElem_cons hj, e]
    rfl
  · rw [hring _ fl pv nx sz hr, List.drop_length]
    rfl
/-- At rest, beside kept blocks. -/
def ST (wb : World) (p : Nat) (s : Sl) (X : Nat → Prop) (W : World) : Prop := ∃ A, SSt wb X W p s A none
theorem it_st (wb : World) (p : Nat) {s : Sl} (hs : s.Fit) (l : Int) : ∃ Y Am, It wb (some ⟨p, 0, none⟩) l (s.of_ l) (ST wb p s) Y Am := by
  have hlen : ∀ {X W}, ST wb p s X W → Calls Try.prog 20 #[.pointer (some ⟨p, 0, none⟩), .int .i64 l] W (ret (.int .i64 ((s.of_ l).length : Int)) W) := by
    rintro X W ⟨A, F, hp, _⟩
    exact pa_len hs l hp
  by_cases hl : 0 ≤ l ∧ l < (s.ls.length : Int)
  · obtain ⟨i, rfl⟩ := Int.eq_ofNat_of_zero_le hl.1
    have hi : i < s.ls.length := by omega
    rw [Sl.of_in] at hlen ⊢
    refine ⟨WkY wb p (s.at_ i) (fun _ => s), WkA wb p (fun _ => s) (fun j => (((s.cells + i) :: s.at_ i)[j]?).getD (s.cells + i)), ?_⟩
    refine ⟨fun ⟨A, h⟩ => h.below, fun ⟨A, h⟩ => h.lt, fun ⟨A, h⟩ q => ⟨A, h.less q⟩, fun ⟨A, h⟩ q r => ⟨A, h.more q r⟩, fun ⟨A, h⟩ q r => ⟨A, h.kept q r⟩, fun h q r => ⟨h.1, h.2.kept q r⟩, fun h q r => SSt.kept h q r, fun h => h.1, fun {g X pre x W} h => ?_, hlen, fun b2 b3 => pof_it wb p (s.at_ i) (fun _ => s) _ s.cells s.ls.length i (walk_same hs.ok hi) hs.m hs.n hi b2 b3⟩
    obtain ⟨⟨t, ht⟩, h2⟩ := h
    show SSt wb X W p s g.1 (some (g.2, (((s.cells + i) :: s.at_ i)[(pre ++ [x]).length]?).getD (s.cells + i)))
    have e : (((s.cells + i) :: s.at_ i)[(pre ++ [x]).length]?).getD (s.cells + i) = x := by
      rw [← ht, List.length_append]
      show ((((pre ++ [x]) ++ t))[pre.length]?).getD _ = x
      simp
    rw [e]
    exact h2
  · rw [Sl.of_no hl] at hlen ⊢
    refine ⟨fun _ _ _ _ _ => False, fun _ _ _ _ => False, ?_⟩
    refine ⟨fun ⟨A, h⟩ => h.below, fun ⟨A, h⟩ => h.lt, fun ⟨A, h⟩ q => ⟨A, h.less q⟩, fun ⟨A, h⟩ q r => ⟨A, h.more q r⟩, fun ⟨A, h⟩ q r => ⟨A, h.kept q r⟩, fun h => h.elim, fun h => h.elim, fun h => h.elim, fun h => h.elim, hlen, fun b2 b3 => ?_⟩
    refine pof_none (ST wb p s) (some ⟨p, 0, none⟩) l (fun X W W' ⟨A, h⟩ hb => ⟨A, h.step hb⟩) (fun X X' W ⟨A, h⟩ q => ⟨A, h.less q⟩) (fun X W ⟨A, h⟩ => h.lt) ?_ b2 b3 _ _ _
    rintro X W ⟨A, F, ⟨cA, B, cB, V, cV, fl, pv, nx, sz, hx, hr⟩, _⟩
    have := hx.hasL l
    have e : (decide ((0 : Int) ≤ l) && decide (l < (s.ls.length : Int))) = false := by
      rw [Bool.and_eq_false_iff]
      simp only [decide_eq_false_iff_not]
      omega
    rwa [e] at this
/-- Slots that are not there, or were not made. -/
def NT (wb : World) (pa : Option Addr) (X : Nat → Prop) (W : World) : Prop := Below wb.heap.size wb W ∧ (∀ k, X k → k < W.heap.size) ∧ (pa = none ∨ ∃ z, pa = some ⟨z, 0, none⟩ ∧ ¬ X z ∧ W.heap[z]? = some (.cells #[.slice none 0 0, .slice none 0 0, .slice none 0 0] 53 (0, 0)))
section
variable {wb W W' : World} {pa : Option Addr} {X : Nat → Prop}
theorem NT.kept (h : NT wb pa X W) {R : Nat → Prop} (hk : Kept R W W') (hR : ∀ k, R k → k < W.heap.size → X k ∧ wb.heap.size ≤ k) : NT wb pa X W' := by
  obtain ⟨h1, h2, h3⟩ := h
  refine ⟨h1.trans ((hk.mono (R' := fun k => R k ∧ k < W.heap.size) fun k hl hr => ⟨hr, hl⟩).below h1.size fun k hr => (hR k hr.1 hr.2).2), fun k q => Nat.lt_of_lt_of_le (h2 k q) hk.size, h3.imp id ?_⟩
  rintro ⟨z, e, hz, hb⟩
  exact ⟨z, e, hz, (hk.block z (lt_heap hb) fun r => hz (hR z r (lt_heap hb)).1).trans hb⟩
theorem NT.step (h : NT wb pa X W) (hb : Below W.heap.size W W') : NT wb pa X W' := h.kept (Kept.of_below hb fun _ => False) fun _ q => q.elim
theorem NT.less (h : NT wb pa X W) {Y : Nat → Prop} (hY : ∀ k, Y k → X k) : NT wb pa Y W :=
  ⟨h.1, fun k q => h.2.1 k (hY k q), h.2.2.imp id fun ⟨z, e, hz, hb⟩ => ⟨z, e, fun q => hz (hY z q), hb⟩⟩
theorem NT.more (h : NT wb pa X W) (hb : Below W.heap.size W W') {Y : Nat → Prop} (hY : ∀ k, Y k → W.heap.size ≤ k ∧ k < W'.heap.size) : NT wb pa (Or2 X Y) W' := by
  obtain ⟨h1, h2, h3⟩ := h
  refine ⟨h1.trans (hb.mono h1.size), fun k q => ?_, h3.imp id ?_⟩
  · rcases q with q | q
    · exact Nat.lt_of_lt_of_le (h2 k q) hb.size
    · exact (hY k q).2
  · rintro ⟨z, e, hz, hbz⟩
    refine ⟨z, e, fun q => ?_, (hb.block z (lt_heap hbz)).trans hbz⟩
    rcases q with q | q
    · exact hz q
    · have := (hY z q).1
      have := lt_heap hbz
      omega
theorem NT.hasL (h : NT wb pa X W) (l : Int) : Calls Try.prog 25 #[.pointer pa, .int .i64 l] W (ret (.bool false) W) := by
  rcases h.2.2 with rfl | ⟨z, rfl, _, hb⟩
  · exact phasL_0 W l
  · have := phasL_c W z none 0 0 (blk_cell hb 1) l
    have e : (decide ((0 : Int) ≤ l) && decide (l < ((0 : Nat) : Int))) = false := by
      rw [Bool.and_eq_false_iff]
      simp only [decide_eq_false_iff_not]
      omega
    rwa [e] at this
theorem NT.hasC (h : NT wb pa X W) (c : Int) : Calls Try.prog 26 #[.pointer pa, .int .i64 c] W (ret (.bool false) W) := by
  rcases h.2.2 with rfl | ⟨z, rfl, _, hb⟩
  · exact phasC_0 W c
  · have := phasC_c W z 0 (fun U hU => pown_c U z none none 0 0 0 0 (blk_cell ((hU.block z (lt_heap hb)).trans hb) 0) (blk_cell ((hU.block z (lt_heap hb)).trans hb) 1) (by omega) (by omega) 0 (by omega)) c
    have e : (decide ((0 : Int) ≤ c) && decide (c < ((0 : Nat) : Int))) = false := by
      rw [Bool.and_eq_false_iff]
      simp only [decide_eq_false_iff_not]
      omega
    rwa [e] at this
end
theorem it_nt (wb : World) (pa : Option Addr) (l : Int) : It wb pa l [] (NT wb pa) (fun _ _ _ _ _ => False) (fun _ _ _ _ => False) :=
  ⟨fun h => h.1, fun h => h.2.1, fun h q => h.less q, fun h q r => h.more q r, fun h q r => h.kept q r, fun h => h.elim, fun h => h.elim, fun h => h.elim, fun h => h.elim, fun {_X W} h => plen_no W pa l (h.hasL l),
    fun b2 b3 => pof_none (NT wb pa) pa l (fun _X _W _W' h hb => h.step hb) (fun _X _X' _W h q => h.less q) (fun _X _W h => h.2.1) (fun _X _W h => h.hasL l) b2 b3 _ _ _⟩
/-- tells, of slots. -/
theorem tells_st (wb : World) (p : Nat) {s : Sl} (hs : s.Fit) (l : Int) {X : Nat → Prop} {w : World} (h : ST wb p s X w) {v : Value} (hv : LRow w X v (s.of_ l)) :
    Calls Try.prog 22 #[.pointer (some ⟨p, 0, none⟩), .int .i64 l, v] w fun e w' => e = .returned (.bool true) ∧ ST wb p s X w' ∧ ∀ k, X k → w'.heap[k]? = w.heap[k]? := by
  obtain ⟨V, c, rfl, h1, h2, h3⟩ := hv
  obtain ⟨Y, Am, hI⟩ := it_st wb p hs l
  refine tells_any hI ?_ X w h V _ c rfl h1 h2 h3
  unfold Sl.of_
  split
  · have := Sl.at_length hs.ok l.toNat
    have := hs.m
    omega
  · simp
end Go.Proofs.Ythlnhkkjpjbmeaa
