import Derived.Test.YtlchegibfopglaaK8
import Derived.Test.YtlchegibfopglaaK1
import Derived.Test.YtlchegibfopglaaK13
/- The program's Ports (seg). -/
namespace Go.Proofs.Ytlchegibfopglaa
set_option maxRecDepth 100000
open Go.RowKit
/-- What Ports tells. -/
def PortsE (n : Nat) : Int := if n < 4 then 4 else 0
set_option maxHeartbeats 1000000 in
theorem ports_any (A : Option Addr) (n c : Nat) (f : Nat → Int) (hf : Byt f) (hn : n ≤ 140737488355328) (w : World) (hr : Rd w w.heap.size A n f) :
    Calls Try.prog 80 #[.slice A n c] w fun e w' => e = .returned (.tuple #[.int .u16 (if n < 4 then 0 else w2 f 0), .int .u16 (if n < 4 then 0 else w2 f 2), .int .i64 (PortsE n)]) ∧ Below w.heap.size w w' := by
  unfold PortsE
  by_cases c0 : n < 4
  · rw [if_pos c0, if_pos c0, if_pos c0]
    have c0' : (n : Int) < 4 := by omega
    clear c0 hr hf
    go_enter Try.func80, Try.ntmps80
    go_wp2
    exact bodyPost_ret (v := .tuple #[.int .u16 0, .int .u16 0, .int .i64 4]) (by simp [results, Try.results80, go_sem]) rfl ⟨rfl, Below.refl _ _⟩
  · rw [if_neg c0, if_neg c0, if_neg c0]
    have c0' : (4 : Int) ≤ (n : Int) := by omega
    rcases hr with h0 | ⟨b, off, rfl, hbb, hcell⟩
    · omega
    have HC := Lib.hid hcell
    have HF := Lib.hid hf
    clear hcell hf
    have HRD := Lib.hid fun W => reader_any (.slice (some ⟨b, off, none⟩) n c) _ n c rfl W
    unfold wdV at HRD
    go_enter Try.func80, Try.ntmps80
    go_upto_region 4 with (first
      | (go_at_call 59; refine (HRD.out _).mono ?_; rintro e u3 ⟨rfl, hw3⟩; have HW3 := Lib.hid hw3; clear hw3))
    have HP3 : Hid (u3.cell? ⟨w.heap.size, 0, none⟩ = some (.slice (some ⟨b, off, none⟩) n c)) := by rw [HW3.out]; exact blk_cell (heap_alloc_new _ _) 0
    have HB3 : Hid (Below w.heap.size w u3) := by rw [HW3.out]; exact below_alloc _ _
    clear HW3 HRD
    have hp3 : w.heap.size < u3.heap.size := World.block_lt_of_cell? _ _ HP3.out
    have hb3 : b < u3.heap.size := Nat.lt_of_lt_of_le hbb HB3.out.size
    have HWD : Hid (∀ (k : Nat) (_ : k + 1 < n) (W : World), Below u3.heap.size u3 W → Calls Try.prog 76 #[.int .i64 (k : Int), .pointer (some ⟨w.heap.size, 0, none⟩)] W fun e w' => e = .returned (.int .u16 (w2 f k)) ∧ Below W.heap.size W w') := fun k hk W hW =>
      word_any w.heap.size b off n c k f HF.out hk (by omega) W ((hW.cell (p := ⟨w.heap.size, 0, none⟩) hp3).trans HP3.out) (fun k hk => (hW.cell (p := ⟨b, off + k, none⟩) hb3).trans ((HB3.out.cell (p := ⟨b, off + k, none⟩) hbb).trans (HC.out k hk)))
    have H0 : Hid (∀ (W : World), Below u3.heap.size u3 W → Calls Try.prog 76 #[.int .i64 0, .pointer (some ⟨w.heap.size, 0, none⟩)] W fun e w' => e = .returned (.int .u16 (w2 f 0)) ∧ Below W.heap.size W w') := HWD.out 0 (by omega)
    have H2 : Hid (∀ (W : World), Below u3.heap.size u3 W → Calls Try.prog 76 #[.int .i64 2, .pointer (some ⟨w.heap.size, 0, none⟩)] W fun e w' => e = .returned (.int .u16 (w2 f 2)) ∧ Below W.heap.size W w') := HWD.out 2 (by omega)
    clear HWD
    go_wp2_with fail
    go_at_call 76
    refine (H0.out _ (Below.refl _ _)).mono ?_
    rintro e u4 ⟨rfl, hb4⟩
    go_wp2_with fail
    go_at_call 76
    refine (H2.out _ hb4).mono ?_
    rintro e u5 ⟨rfl, hb5⟩
    go_wp2_with fail
    refine bodyPost_ret (v := .tuple #[.int .u16 (w2 f 0), .int .u16 (w2 f 2), .int .i64 0]) (by simp [results, Try.results80, go_sem]) rfl ⟨rfl, ?_⟩
    exact (HB3.out.trans (hb4.mono HB3.out.size)).trans (hb5.mono (Nat.le_trans HB3.out.size hb4.size))
end Go.Proofs.Ytlchegibfopglaa
/- The blocks that a walk made, in the order of their making: one fact for all of them, over any program. -/
namespace Go.Proofs.Ytlchegibfopglaa
open Go.RowKit
structure Mem (w W : World) (L : List (Nat × Obj)) : Prop where
  all : ∀ p ∈ L, W.heap[p.1]? = some p.2
  lo : ∀ p ∈ L, w.heap.size ≤ p.1
  inc : L.Pairwise fun a b => a.1 < b.1
  below : Below w.heap.size w W
theorem Mem.nil (w : World) : Mem w w [] := ⟨fun _ h => (nomatch h), fun _ h => (nomatch h), .nil, Below.refl _ _⟩
theorem Mem.get {w W : World} {L : List (Nat × Obj)} (h : Mem w W L) (k : Nat) {g : Nat} {o : Obj} (hk : L[k]? = some (g, o)) : W.heap[g]? = some o := h.all (g, o) (List.mem_of_getElem? hk)
theorem Mem.low {w W : World} {L : List (Nat × Obj)} (h : Mem w W L) (k : Nat) {g : Nat} {o : Obj} (hk : L[k]? = some (g, o)) : w.heap.size ≤ g := h.lo (g, o) (List.mem_of_getElem? hk)
theorem Mem.step {w W W' : World} {L : List (Nat × Obj)} (h : Mem w W L) (hb : Below W.heap.size W W') : Mem w W' L :=
  ⟨fun p hp => (hb.block _ (lt_heap (h.all p hp))).trans (h.all p hp), h.lo, h.inc, h.below.trans (hb.mono h.below.size)⟩
theorem Mem.drew {w W : World} {L : List (Nat × Obj)} (h : Mem w W L) : Mem w W.drew L := ⟨h.all, h.lo, h.inc, h.below.drew⟩
theorem Mem.alloc {w W : World} {L : List (Nat × Obj)} (h : Mem w W L) (o : Obj) : Mem w (W.alloc o) (L ++ [(W.heap.size, o)]) := by
  refine ⟨fun p hp => ?_, fun p hp => ?_, ?_, h.below.alloc h.below.size o⟩
  · rcases List.mem_append.1 hp with q | q
    · exact blk_old (h.all p q) o
    · obtain rfl := List.mem_singleton.1 q
      exact heap_alloc_new W o
  · rcases List.mem_append.1 hp with q | q
    · exact h.lo p q
    · obtain rfl := List.mem_singleton.1 q
      exact h.below.size
  · refine List.pairwise_append.2 ⟨h.inc, List.pairwise_singleton .., fun a ha b hb => ?_⟩
    obtain rfl := List.mem_singleton.1 hb
    exact lt_heap (h.all a ha)
/-- A block that is made and named. -/
theorem Mem.new {w W : World} {L : List (Nat × Obj)} (h : Mem w W L) (o : Obj) (q : Nat) (hq : q = W.heap.size) : Mem w (W.alloc o) (L ++ [(q, o)]) := by
  subst hq
  exact h.alloc o
theorem Mem.turn {w W W' : World} {L : List (Nat × Obj)} (h : Mem w W L) (k : Nat) {g : Nat} {o : Obj} (hk : L[k]? = some (g, o)) (o' : Obj) (hg : W'.heap[g]? = some o') (hw : ∀ j, j ≠ g → W'.heap[j]? = W.heap[j]?) (hb : Below w.heap.size w W') : Mem w W' (L.set k (g, o')) := by
  obtain ⟨hlt, he⟩ := List.getElem?_eq_some_iff.1 hk
  have hp := List.pairwise_iff_getElem.1 h.inc
  have key : ∀ i (hi : i < (L.set k (g, o')).length), W'.heap[(L.set k (g, o'))[i].1]? = some (L.set k (g, o'))[i].2 ∧ w.heap.size ≤ (L.set k (g, o'))[i].1 := fun i hi => by
    have hi' : i < L.length := by simpa using hi
    rw [List.getElem_set]
    by_cases e : k = i
    · subst e
      rw [if_pos rfl]
      exact ⟨hg, h.low k hk⟩
    · rw [if_neg e]
      refine ⟨?_, h.lo _ (List.getElem_mem hi')⟩
      rw [hw _ ?_]
      · exact h.all _ (List.getElem_mem hi')
      · have e2 : L[k].1 = g := by rw [he]
        rcases Nat.lt_or_gt_of_ne e with q | q
        · have := hp k i hlt hi' q
          omega
        · have := hp i k hi' hlt q
          omega
  refine ⟨fun p hp => ?_, fun p hp => ?_, ?_, hb⟩
  · obtain ⟨i, hi, rfl⟩ := List.getElem_of_mem hp
    exact (key i hi).1
  · obtain ⟨i, hi, rfl⟩ := List.getElem_of_mem hp
    exact (key i hi).2
  · refine List.pairwise_iff_getElem.2 fun i j hi hj hij => ?_
    have hi' : i < L.length := by simpa using hi
    have hj' : j < L.length := by simpa using hj
    have e1 : ∀ i (hi : i < (L.set k (g, o')).length) (hi' : i < L.length), (L.set k (g, o'))[i].1 = L[i].1 := fun i hi hi' => by
      rw [List.getElem_set]
      split
      · rename_i e
        subst e
        rw [he]
      · rfl
    rw [e1 i hi hi', e1 j hj hj']
    exact hp i j hi' hj' hij
theorem Mem.row {w W : World} {L : List (Nat × Obj)} (h : Mem w W L) (k : Nat) {g : Nat} {cs : Array Value} {t : TypeId} (hk : L[k]? = some (g, .cells cs t (0, 0))) (new : Array Value) : Mem w (W.setRow g new) (L.set k (g, .cells new t (0, 0))) :=
  h.turn k hk _ (setRow_heap W g _ new _ _ (h.get k hk)) (fun j hj => setRow_other W g j new hj) (below_setRow h.below (h.low k hk) new)
theorem Mem.set {w W : World} {L : List (Nat × Obj)} (h : Mem w W L) (k : Nat) {g : Nat} {cs : Array Value} {t : TypeId} (hk : L[k]? = some (g, .cells cs t (0, 0))) (i : Nat) (v : Value) : Mem w (W.setCell ⟨g, i, none⟩ v) (L.set k (g, .cells (cs.setIfInBounds i v) t (0, 0))) :=
  h.turn k hk _ (blk_set (h.get k hk) i v) (fun j hj => Below.heap_setCell W ⟨g, i, none⟩ v j hj) (h.below.setCell (h.low k hk) v)
theorem Mem.cells {w W : World} {L : List (Nat × Obj)} (h : Mem w W L) (k : Nat) {g : Nat} {cs : Array Value} {t : TypeId} (hk : L[k]? = some (g, .cells cs t (0, 0))) (o : Nat) (vs : List Value) : Mem w (W.setCells g o vs) (L.set k (g, .cells (laid cs o vs) t (0, 0))) :=
  h.turn k hk _ (blk_setCells vs o W cs (h.get k hk)) (fun j hj => other_setCells hj vs o W) (below_setCells (h.low k hk) vs o W h.below)
/-- Bytes that came in, behind it. -/
theorem Mem.rd {w W : World} {L : List (Nat × Obj)} (h : Mem w W L) {A : Option Addr} {n : Nat} {f : Nat → Int} (hr : Rd w w.heap.size A n f) : Rd W W.heap.size A n f := (hr.keep h.below).more h.below.size
theorem Mem.cell {w W : World} {L : List (Nat × Obj)} (h : Mem w W L) {b o : Nat} (hb : b < w.heap.size) {v : Value} (hc : w.cell? ⟨b, o, none⟩ = some v) : W.cell? ⟨b, o, none⟩ = some v := (h.below.cell (p := ⟨b, o, none⟩) hb).trans hc
/-- .. of the call's own: kept where one of the blocks, of another type, alone is turned. -/
theorem Own.besides {w W W' : World} {L : List (Nat × Obj)} {base : Nat} {e : TypeId} {A : Option Addr} {n c : Nat} {f : Nat → Int} (ho : Own W base e A n c f) (h : Mem w W L) (k : Nat) {g : Nat} {cs : Array Value} {t : TypeId} (hk : L[k]? = some (g, .cells cs t (0, 0))) (hte : t ≠ e) (hw : ∀ j, j ≠ g → W'.heap[j]? = W.heap[j]?) : Own W' base e A n c f :=
  ho.other (h.get k hk) hte hw
theorem Mem.old {w W : World} {L : List (Nat × Obj)} (h : Mem w W L) {g : Nat} {o : Obj} (hg : w.heap[g]? = some o) : W.heap[g]? = some o := (h.below.block _ (lt_heap hg)).trans hg
end Go.Proofs.Ytlchegibfopglaa
/- Layer 6: Within, the program's and the document's. -/
namespace Go.Proofs.Ytlchegibfopglaa
set_option maxRecDepth 100000
open Go.RowKit
/-- The flow that Within tells. -/
def wT (v6 : Bool) (f : Nat → Int) (n : Nat) : Array Value :=
  if winE v6 f n = 0 then tupc v6 (win v6 f n).2.2 (winS v6 f) (winD v6 f) (w2 f ((win v6 f n).2.1 + 2)) (w2 f (win v6 f n).2.1) else tupz
theorem wT_one (v6 : Bool) (f : Nat → Int) (n : Nat) : (wT v6 f n).all (·.oneCell') = true := by unfold wT; split <;> exact tup_one ..
theorem wT_size (v6 : Bool) (f : Nat → Int) (n : Nat) : (wT v6 f n).size = 36 := by unfold wT; split <;> rfl
theorem wT_no {v6 : Bool} {f : Nat → Int} {n : Nat} (h : winE v6 f n ≠ 0) : wT v6 f n = tupz := by unfold wT; rw [if_neg h]
theorem wT_ok {v6 : Bool} {f : Nat → Int} {n a : Nat} {P : Int} (h : winE v6 f n = 0) (hx : win v6 f n = (0, a, P)) : wT v6 f n = tupc v6 P (winS v6 f) (winD v6 f) (w2 f (a + 2)) (w2 f a) := by unfold wT; rw [if_pos h, hx]
theorem winE_0 {v6 : Bool} {f : Nat → Int} {n a : Nat} {E P : Int} (hx : win v6 f n = (E, a, P)) (h : E ≠ 0) : winE v6 f n = E := by unfold winE; rw [hx, if_pos h]
theorem winE_1 {v6 : Bool} {f : Nat → Int} {n a : Nat} {P : Int} (hx : win v6 f n = (0, a, P)) (h : P ≠ 6 ∧ P ≠ 17) : winE v6 f n = 10 := by unfold winE; rw [hx, if_neg (fun q => q rfl), if_pos h]
theorem winE_2 {v6 : Bool} {f : Nat → Int} {n a : Nat} {P : Int} (hx : win v6 f n = (0, a, P)) (h : P = 6 ∨ P = 17) (h4 : n - a < 4) : winE v6 f n = 4 := by unfold winE; rw [hx, if_neg (fun q => q rfl), if_neg (fun q => by rcases h with r | r; exact q.1 r; exact q.2 r), if_pos h4]
theorem winE_3 {v6 : Bool} {f : Nat → Int} {n a : Nat} {P : Int} (hx : win v6 f n = (0, a, P)) (h : P = 6 ∨ P = 17) (h4 : ¬ n - a < 4) : winE v6 f n = 0 := by unfold winE; rw [hx, if_neg (fun q => q rfl), if_neg (fun q => by rcases h with r | r; exact q.1 r; exact q.2 r), if_neg h4]
theorem win_le {v6 : Bool} {f : Nat → Int} {n a : Nat} {P : Int} (hx : win v6 f n = (0, a, P)) : a ≤ n := by
  cases v6
  · have h : win4 f n = (0, a, P) := hx
    unfold win4 at h
    split at h
    · injection h with h1 _; omega
    split at h
    · injection h with h1 _; omega
    split at h
    · injection h with h1 _; omega
    split at h
    · injection h with h1 _; omega
    injection h with _ h
    injection h with h _
    omega
  · have h : win6 f n = (0, a, P) := hx
    unfold win6 at h
    split at h
    · injection h with h1 _; omega
    split at h
    · injection h with h1 _; omega
    split at h
    · rename_i q
      injection h with h1 _
      exact absurd h1 q
    · rename_i q1 q2 q3
      injection h with _ h
      injection h with h _
      have q4 : (wch f n).2.2 = 0 := by
        by_cases e : (wch f n).2.2 = 0
        · exact e
        · exact absurd e q3
      have := (chn_same (f := fun k => f (40 + k)) (g := fun k => f (40 + k)) (N := n - 40) (N' := n - 40) 8 (f 6) 0 (wch f n).1 (wch f n).2.1 (by show wch f n = _; rw [← q4]) (Nat.zero_le _)).2.2
      omega
theorem w2_from (f : Nat → Int) (a : Nat) : w2 (fun k => f (a + k)) 0 = w2 f a ∧ w2 (fun k => f (a + k)) 2 = w2 f (a + 2) := ⟨rfl, rfl⟩
/-- What Within tells. -/
def WiOut (v6 : Bool) (f : Nat → Int) (n : Nat) (w : World) (e : Ending) (w' : World) : Prop := e = .returned (.tuple #[.agg (wT v6 f n), .int .i64 (winE v6 f n)]) ∧ Below w.heap.size w w'
set_option maxRecDepth 100000 in
set_option maxHeartbeats 4000000 in
theorem within_false (A : Option Addr) (n c : Nat) (f : Nat → Int) (hf : Byt f) (hn : n ≤ 140737488355328) (hcap : n ≤ c) (hc' : c ≤ 9223372036854775807) (w : World) (hr : Rd w w.heap.size A n f) :
    Calls Try.prog 63 #[.bool false, .slice A n c] w (WiOut false f n w) := by
  have HR := Lib.hid hr
  have HF := Lib.hid hf
  clear hr hf
  unfold WiOut
  obtain ⟨R, hR⟩ : ∃ R, R = winE false f n := ⟨_, rfl⟩
  obtain ⟨TT, hT⟩ : ∃ TT, TT = wT false f n := ⟨_, rfl⟩
  rw [← hR, ← hT]
  have HRE := Lib.hid hR
  have HTE := Lib.hid hT
  clear hR hT
  obtain ⟨X, hX⟩ : ∃ X, X = win false f n := ⟨_, rfl⟩
  have HM1 := Lib.hid ((Mem.nil w).alloc (.cells tupz 26))
  have HBK := Lib.hid (back4_any A n c f HF.out hn hcap hc' (w.alloc (.cells tupz 26)) (HM1.out.rd HR.out))
  rw [show win4 f n = X from hX.symm] at HBK
  have HXX := Lib.hid hX
  obtain ⟨E, a, P⟩ := X
  clear hX
  go_enter Try.func63, Try.ntmps63
  go_upto_region 4 with fail
  change Code.wp _ _ _ _ (w.alloc (.cells tupz 26))
  generalize w.alloc (.cells tupz 26) = u1 at *
  go_wp2_with fail
  go_at_call 78
  refine HBK.out.mono ?_
  rintro e u2 ⟨v, pr, ss, dd, rfl, hb2, hok⟩
  have HM2 := Lib.hid (HM1.out.step hb2)
  have HOK := Lib.hid hok
  clear hb2 hok HBK HM1
  have HQ : Hid ((u2.alloc (.cells tupz 26)).heap[u2.heap.size]? = some (.cells tupz 26 (0, 0))) := heap_alloc_new u2 _
  go_upto_if 19 with (first
    | (refine wpList_store_row rfl 26 (.tmp 7) (.tmp 15) rfl u2.heap.size (tupc v pr ss dd 0 0) rfl rfl 26 tupz HQ.out (by kernel_rfl) rfl (tup_one ..) ?_))
  change Code.wp _ _ _ _ ((u2.alloc (.cells tupz 26)).setRow u2.heap.size (tupc v pr ss dd 0 0))
  obtain ⟨q, hq⟩ : ∃ q, q = u2.heap.size := ⟨_, rfl⟩
  have HM3 : Hid (Mem w ((u2.alloc (.cells tupz 26)).setRow q (tupc v pr ss dd 0 0)) [(w.heap.size, .cells tupz 26 (0, 0)), (q, .cells (tupc v pr ss dd 0 0) 26 (0, 0))]) := Lib.hid ((HM2.out.new (.cells tupz 26) q hq).row 1 rfl (tupc v pr ss dd 0 0))
  rw [← hq]
  clear hq HQ HM2
  generalize (u2.alloc (.cells tupz 26)).setRow q (tupc v pr ss dd 0 0) = u3 at *
  by_cases c0 : E = 0
  · subst c0
    obtain ⟨e1, e2, e3, e4⟩ := HOK.out rfl
    subst e1
    have e5 : pr = P := e2
    subst e5
    rw [tup_same e3 e4] at HM3
    clear HOK e2 e3 e4
    have ha := win_le HXX.out.symm
    by_cases c1 : pr = 6 ∨ pr = 17
    · have N1 := Lib.hid c1
      obtain ⟨D, hsD, hrD⟩ := slice_any A n c a ha hcap hc'
      have HPT := Lib.hid (ports_any D (n - a) (c - a) (fun k => f (a + k)) (fun k => HF.out _) (by omega) u3 (hrD _ _ _ (HM3.out.rd HR.out)))
      rw [(w2_from f a).1, (w2_from f a).2] at HPT
      have x1 : u3.cell? ⟨q, 1, none⟩ = some (.int .u8 pr) := blk_cell (HM3.out.get 1 rfl) 1
      obtain ⟨y0, hy0⟩ : ∃ y, y = (if n - a < 4 then 0 else w2 f a) := ⟨_, rfl⟩
      obtain ⟨y2, hy2⟩ : ∃ y, y = (if n - a < 4 then 0 else w2 f (a + 2)) := ⟨_, rfl⟩
      obtain ⟨pe, hpe⟩ : ∃ pe, pe = PortsE (n - a) := ⟨_, rfl⟩
      rw [← hy0, ← hy2, ← hpe] at HPT
      have HY0 := Lib.hid hy0
      have HY2 := Lib.hid hy2
      have HPE := Lib.hid hpe
      clear hy0 hy2 hpe hrD
      have HU9 : ∀ K : Prop, (pr = 6 → K) → (pr = 17 → K) → K := fun K h1 h2 => by rcases N1.out with h | h; exact h1 h; exact h2 h
      have k6 : (pr != 6 && pr != 17) = false := by rcases N1.out with h | h <;> subst h <;> rfl
      clear HU9
      have k7 : (pr != 6) = false ∨ ((pr != 6) = true ∧ (pr != 17) = false) := by rcases N1.out with h | h <;> subst h <;> simp
      clear k6 c1
      rcases k7 with k7 | ⟨k7, k8⟩
      all_goals
        go_wp2_with fail
        go_at_call 80
        refine HPT.out.mono ?_
        rintro e u4 ⟨rfl, hb4⟩
        have HM4 := Lib.hid (HM3.out.step hb4)
        clear hb4 HM3 x1 HPT
        have x34 : u4.cell? ⟨q, 34, none⟩ = some (.int .u16 0) := blk_cell (HM4.out.get 1 rfl) 34
        have y34 := blk_free (HM4.out.get 1 rfl) 34
        have x35 : u4.cell? ⟨q, 35, none⟩ = some (.int .u16 0) := blk_cell (HM4.out.get 1 rfl) 35
        have y35 := blk_free (HM4.out.get 1 rfl) 35
        go_upto_if 42 with fail
        have HM5 : Hid (Mem w ((u4.setCell ⟨q, 35, none⟩ (.int .u16 y0)).setCell ⟨q, 34, none⟩ (.int .u16 y2)) [(w.heap.size, .cells tupz 26 (0, 0)), (q, .cells (tupc false pr (winS false f) (winD false f) y2 y0) 26 (0, 0))]) := Lib.hid ((HM4.out.set 1 rfl 35 (.int .u16 y0)).set 1 rfl 34 (.int .u16 y2))
        clear x34 y34 x35 y35 HM4
        generalize (u4.setCell ⟨q, 35, none⟩ (.int .u16 y0)).setCell ⟨q, 34, none⟩ (.int .u16 y2) = u5 at *
        by_cases c2 : n - a < 4
        · have hpe' : pe = 4 := HPE.out.trans (by unfold PortsE; rw [if_pos c2])
          subst hpe'
          have hRe : R = 4 := HRE.out.trans (winE_2 HXX.out.symm N1.out c2)
          have hTe : TT = tupz := HTE.out.trans (wT_no (by rw [← HRE.out, hRe]; decide))
          go_wp2_with (first
            | (refine wpList_store_row rfl 26 (.tmp 4) (.tmp 43) rfl w.heap.size tupz rfl rfl 26 tupz (HM5.out.get 0 rfl) (by kernel_rfl) rfl tupz_one ?_))
          refine bodyPost_ret (v := .tuple #[.agg tupz, .int .i64 4]) (results_row1 Try.results63 _ _ w.heap.size 26 tupz (0, 0) _ rfl (setRow_heap _ w.heap.size _ tupz _ _ (HM5.out.get 0 rfl)) Try.underlying26 rfl (by kernel_rfl)) rfl ?_
          exact ⟨by rw [hRe, hTe] <;> rfl, below_setRow HM5.out.below (Nat.le_refl _) _⟩
        · have hpe' : pe = 0 := HPE.out.trans (by unfold PortsE; rw [if_neg c2])
          subst hpe'
          have hRe : R = 0 := HRE.out.trans (winE_3 HXX.out.symm N1.out c2)
          have hy0 : y0 = w2 f a := HY0.out.trans (by rw [if_neg c2])
          have hy2 : y2 = w2 f (a + 2) := HY2.out.trans (by rw [if_neg c2])
          have hTe : TT = tupc false pr (winS false f) (winD false f) y2 y0 := by rw [hy0, hy2]; exact HTE.out.trans (wT_ok (by rw [← HRE.out]; exact hRe) HXX.out.symm)
          clear hy0 hy2 HY0 HY2
          go_wp2_with (first
            | (refine wpList_load_row rfl 26 (.tmp 7) rfl q rfl 26 (tupc false pr (winS false f) (winD false f) y2 y0) (0, 0) _ (HM5.out.get 1 rfl) Try.underlying26 rfl (by kernel_rfl) ?_)
            | (refine wpList_store_row rfl 26 (.tmp 4) (.tmp 45) rfl w.heap.size (tupc false pr (winS false f) (winD false f) y2 y0) rfl rfl 26 tupz (HM5.out.get 0 rfl) (by kernel_rfl) rfl (tup_one ..) ?_))
          refine bodyPost_ret (v := .tuple #[.agg (tupc false pr (winS false f) (winD false f) y2 y0), .int .i64 0]) (results_row1 Try.results63 _ _ w.heap.size 26 (tupc false pr (winS false f) (winD false f) y2 y0) (0, 0) _ rfl (setRow_heap _ w.heap.size _ (tupc false pr (winS false f) (winD false f) y2 y0) _ _ (HM5.out.get 0 rfl)) Try.underlying26 rfl (by kernel_rfl)) rfl ?_
          exact ⟨by rw [hRe, hTe] <;> rfl, below_setRow HM5.out.below (Nat.le_refl _) _⟩
    · have k6 : (pr != 6) = true := by simp; omega
      have k7 : (pr != 17) = true := by simp; omega
      have hRe : R = 10 := HRE.out.trans (winE_1 HXX.out.symm ⟨by omega, by omega⟩)
      have hTe : TT = tupz := HTE.out.trans (wT_no (by rw [← HRE.out, hRe]; decide))
      have x1 : u3.cell? ⟨q, 1, none⟩ = some (.int .u8 pr) := blk_cell (HM3.out.get 1 rfl) 1
      clear c1
      go_upto_region 8 with fail
      clear x1
      go_wp2_with (first
        | (refine wpList_store_row rfl 26 (.tmp 4) (.tmp 30) rfl w.heap.size tupz rfl rfl 26 tupz (HM3.out.get 0 rfl) (by kernel_rfl) rfl tupz_one ?_))
      refine bodyPost_ret (v := .tuple #[.agg tupz, .int .i64 10]) (results_row1 Try.results63 _ _ w.heap.size 26 tupz (0, 0) _ rfl (setRow_heap _ w.heap.size _ tupz _ _ (HM3.out.get 0 rfl)) Try.underlying26 rfl (by kernel_rfl)) rfl ?_
      exact ⟨by rw [hRe, hTe] <;> rfl, below_setRow HM3.out.below (Nat.le_refl _) _⟩
  · have c0' : (E != 0) = true := by simpa using c0
    have hRe : R = E := HRE.out.trans (winE_0 HXX.out.symm c0)
    have hTe : TT = tupz := HTE.out.trans (wT_no (by rw [← HRE.out, hRe]; exact c0))
    go_wp2_with (first
      | (refine wpList_store_row rfl 26 (.tmp 4) (.tmp 20) rfl w.heap.size tupz rfl rfl 26 tupz (HM3.out.get 0 rfl) (by kernel_rfl) rfl tupz_one ?_))
    refine bodyPost_ret (v := .tuple #[.agg tupz, .int .i64 E]) (results_row1 Try.results63 _ _ w.heap.size 26 tupz (0, 0) _ rfl (setRow_heap _ w.heap.size _ tupz _ _ (HM3.out.get 0 rfl)) Try.underlying26 rfl (by kernel_rfl)) rfl ?_
    exact ⟨by rw [hRe, hTe] <;> rfl, below_setRow HM3.out.below (Nat.le_refl _) _⟩
set_option maxRecDepth 100000 in
set_option maxHeartbeats 4000000 in
theorem within_true (A : Option Addr) (n c : Nat) (f : Nat → Int) (hf : Byt f) (hn : n ≤ 140737488355328) (hcap : n ≤ c) (hc' : c ≤ 9223372036854775807) (w : World) (hr : Rd w w.heap.size A n f) :
    Calls Try.prog 63 #[.bool true, .slice A n c] w (WiOut true f n w) := by
  have HR := Lib.hid hr
  have HF := Lib.hid hf
  clear hr hf
  unfold WiOut
  obtain ⟨R, hR⟩ : ∃ R, R = winE true f n := ⟨_, rfl⟩
  obtain ⟨TT, hT⟩ : ∃ TT, TT = wT true f n := ⟨_, rfl⟩
  rw [← hR, ← hT]
  have HRE := Lib.hid hR
  have HTE := Lib.hid hT
  clear hR hT
  obtain ⟨X, hX⟩ : ∃ X, X = win true f n := ⟨_, rfl⟩
  have HM1 := Lib.hid ((Mem.nil w).alloc (.cells tupz 26))
  have HBK := Lib.hid (back6_any A n c f HF.out hn hcap hc' (w.alloc (.cells tupz 26)) (HM1.out.rd HR.out))
  rw [show win6 f n = X from hX.symm] at HBK
  have HXX := Lib.hid hX
  obtain ⟨E, a, P⟩ := X
  clear hX
  go_enter Try.func63, Try.ntmps63
  go_upto_region 4 with fail
  change Code.wp _ _ _ _ (w.alloc (.cells tupz 26))
  generalize w.alloc (.cells tupz 26) = u1 at *
  go_wp2_with fail
  go_at_call 79
  refine HBK.out.mono ?_
  rintro e u2 ⟨v, pr, ss, dd, rfl, hb2, hok⟩
  have HM2 := Lib.hid (HM1.out.step hb2)
  have HOK := Lib.hid hok
  clear hb2 hok HBK HM1
  have HQ : Hid ((u2.alloc (.cells tupz 26)).heap[u2.heap.size]? = some (.cells tupz 26 (0, 0))) := heap_alloc_new u2 _
  go_upto_if 19 with (first
    | (refine wpList_store_row rfl 26 (.tmp 7) (.tmp 15) rfl u2.heap.size (tupc v pr ss dd 0 0) rfl rfl 26 tupz HQ.out (by kernel_rfl) rfl (tup_one ..) ?_))
  change Code.wp _ _ _ _ ((u2.alloc (.cells tupz 26)).setRow u2.heap.size (tupc v pr ss dd 0 0))
  obtain ⟨q, hq⟩ : ∃ q, q = u2.heap.size := ⟨_, rfl⟩
  have HM3 : Hid (Mem w ((u2.alloc (.cells tupz 26)).setRow q (tupc v pr ss dd 0 0)) [(w.heap.size, .cells tupz 26 (0, 0)), (q, .cells (tupc v pr ss dd 0 0) 26 (0, 0))]) := Lib.hid ((HM2.out.new (.cells tupz 26) q hq).row 1 rfl (tupc v pr ss dd 0 0))
  rw [← hq]
  clear hq HQ HM2
  generalize (u2.alloc (.cells tupz 26)).setRow q (tupc v pr ss dd 0 0) = u3 at *
  by_cases c0 : E = 0
  · subst c0
    obtain ⟨e1, e2, e3, e4⟩ := HOK.out rfl
    subst e1
    have e5 : pr = P := e2
    subst e5
    rw [tup_same e3 e4] at HM3
    clear HOK e2 e3 e4
    have ha := win_le HXX.out.symm
    by_cases c1 : pr = 6 ∨ pr = 17
    · have N1 := Lib.hid c1
      obtain ⟨D, hsD, hrD⟩ := slice_any A n c a ha hcap hc'
      have HPT := Lib.hid (ports_any D (n - a) (c - a) (fun k => f (a + k)) (fun k => HF.out _) (by omega) u3 (hrD _ _ _ (HM3.out.rd HR.out)))
      rw [(w2_from f a).1, (w2_from f a).2] at HPT
      have x1 : u3.cell? ⟨q, 1, none⟩ = some (.int .u8 pr) := blk_cell (HM3.out.get 1 rfl) 1
      obtain ⟨y0, hy0⟩ : ∃ y, y = (if n - a < 4 then 0 else w2 f a) := ⟨_, rfl⟩
      obtain ⟨y2, hy2⟩ : ∃ y, y = (if n - a < 4 then 0 else w2 f (a + 2)) := ⟨_, rfl⟩
      obtain ⟨pe, hpe⟩ : ∃ pe, pe = PortsE (n - a) := ⟨_, rfl⟩
      rw [← hy0, ← hy2, ← hpe] at HPT
      have HY0 := Lib.hid hy0
      have HY2 := Lib.hid hy2
      have HPE := Lib.hid hpe
      clear hy0 hy2 hpe hrD
      have HU9 : ∀ K : Prop, (pr = 6 → K) → (pr = 17 → K) → K := fun K h1 h2 => by rcases N1.out with h | h; exact h1 h; exact h2 h
      have k6 : (pr != 6 && pr != 17) = false := by rcases N1.out with h | h <;> subst h <;> rfl
      clear HU9
      have k7 : (pr != 6) = false ∨ ((pr != 6) = true ∧ (pr != 17) = false) := by rcases N1.out with h | h <;> subst h <;> simp
      clear k6 c1
      rcases k7 with k7 | ⟨k7, k8⟩
      all_goals
        go_wp2_with fail
        go_at_call 80
        refine HPT.out.mono ?_
        rintro e u4 ⟨rfl, hb4⟩
        have HM4 := Lib.hid (HM3.out.step hb4)
        clear hb4 HM3 x1 HPT
        have x34 : u4.cell? ⟨q, 34, none⟩ = some (.int .u16 0) := blk_cell (HM4.out.get 1 rfl) 34
        have y34 := blk_free (HM4.out.get 1 rfl) 34
        have x35 : u4.cell? ⟨q, 35, none⟩ = some (.int .u16 0) := blk_cell (HM4.out.get 1 rfl) 35
        have y35 := blk_free (HM4.out.get 1 rfl) 35
        go_upto_if 42 with fail
        have HM5 : Hid (Mem w ((u4.setCell ⟨q, 35, none⟩ (.int .u16 y0)).setCell ⟨q, 34, none⟩ (.int .u16 y2)) [(w.heap.size, .cells tupz 26 (0, 0)), (q, .cells (tupc true pr (winS true f) (winD true f) y2 y0) 26 (0, 0))]) := Lib.hid ((HM4.out.set 1 rfl 35 (.int .u16 y0)).set 1 rfl 34 (.int .u16 y2))
        clear x34 y34 x35 y35 HM4
        generalize (u4.setCell ⟨q, 35, none⟩ (.int .u16 y0)).setCell ⟨q, 34, none⟩ (.int .u16 y2) = u5 at *
        by_cases c2 : n - a < 4
        · have hpe' : pe = 4 := HPE.out.trans (by unfold PortsE; rw [if_pos c2])
          subst hpe'
          have hRe : R = 4 := HRE.out.trans (winE_2 HXX.out.symm N1.out c2)
          have hTe : TT = tupz := HTE.out.trans (wT_no (by rw [← HRE.out, hRe]; decide))
          go_wp2_with (first
            | (refine wpList_store_row rfl 26 (.tmp 4) (.tmp 43) rfl w.heap.size tupz rfl rfl 26 tupz (HM5.out.get 0 rfl) (by kernel_rfl) rfl tupz_one ?_))
          refine bodyPost_ret (v := .tuple #[.agg tupz, .int .i64 4]) (results_row1 Try.results63 _ _ w.heap.size 26 tupz (0, 0) _ rfl (setRow_heap _ w.heap.size _ tupz _ _ (HM5.out.get 0 rfl)) Try.underlying26 rfl (by kernel_rfl)) rfl ?_
          exact ⟨by rw [hRe, hTe] <;> rfl, below_setRow HM5.out.below (Nat.le_refl _) _⟩
        · have hpe' : pe = 0 := HPE.out.trans (by unfold PortsE; rw [if_neg c2])
          subst hpe'
          have hRe : R = 0 := HRE.out.trans (winE_3 HXX.out.symm N1.out c2)
          have hy0 : y0 = w2 f a := HY0.out.trans (by rw [if_neg c2])
          have hy2 : y2 = w2 f (a + 2) := HY2.out.trans (by rw [if_neg c2])
          have hTe : TT = tupc true pr (winS true f) (winD true f) y2 y0 := by rw [hy0, hy2]; exact HTE.out.trans (wT_ok (by rw [← HRE.out]; exact hRe) HXX.out.symm)
          clear hy0 hy2 HY0 HY2
          go_wp2_with (first
            | (refine wpList_load_row rfl 26 (.tmp 7) rfl q rfl 26 (tupc true pr (winS true f) (winD true f) y2 y0) (0, 0) _ (HM5.out.get 1 rfl) Try.underlying26 rfl (by kernel_rfl) ?_)
            | (refine wpList_store_row rfl 26 (.tmp 4) (.tmp 45) rfl w.heap.size (tupc true pr (winS true f) (winD true f) y2 y0) rfl rfl 26 tupz (HM5.out.get 0 rfl) (by kernel_rfl) rfl (tup_one ..) ?_))
          refine bodyPost_ret (v := .tuple #[.agg (tupc true pr (winS true f) (winD true f) y2 y0), .int .i64 0]) (results_row1 Try.results63 _ _ w.heap.size 26 (tupc true pr (winS true f) (winD true f) y2 y0) (0, 0) _ rfl (setRow_heap _ w.heap.size _ (tupc true pr (winS true f) (winD true f) y2 y0) _ _ (HM5.out.get 0 rfl)) Try.underlying26 rfl (by kernel_rfl)) rfl ?_
          exact ⟨by rw [hRe, hTe] <;> rfl, below_setRow HM5.out.below (Nat.le_refl _) _⟩
    · have k6 : (pr != 6) = true := by simp; omega
      have k7 : (pr != 17) = true := by simp; omega
      have hRe : R = 10 := HRE.out.trans (winE_1 HXX.out.symm ⟨by omega, by omega⟩)
      have hTe : TT = tupz := HTE.out.trans (wT_no (by rw [← HRE.out, hRe]; decide))
      have x1 : u3.cell? ⟨q, 1, none⟩ = some (.int .u8 pr) := blk_cell (HM3.out.get 1 rfl) 1
      clear c1
      go_upto_region 8 with fail
      clear x1
      go_wp2_with (first
        | (refine wpList_store_row rfl 26 (.tmp 4) (.tmp 30) rfl w.heap.size tupz rfl rfl 26 tupz (HM3.out.get 0 rfl) (by kernel_rfl) rfl tupz_one ?_))
      refine bodyPost_ret (v := .tuple #[.agg tupz, .int .i64 10]) (results_row1 Try.results63 _ _ w.heap.size 26 tupz (0, 0) _ rfl (setRow_heap _ w.heap.size _ tupz _ _ (HM3.out.get 0 rfl)) Try.underlying26 rfl (by kernel_rfl)) rfl ?_
      exact ⟨by rw [hRe, hTe] <;> rfl, below_setRow HM3.out.below (Nat.le_refl _) _⟩
  · have c0' : (E != 0) = true := by simpa using c0
    have hRe : R = E := HRE.out.trans (winE_0 HXX.out.symm c0)
    have hTe : TT = tupz := HTE.out.trans (wT_no (by rw [← HRE.out, hRe]; exact c0))
    go_wp2_with (first
      | (refine wpList_store_row rfl 26 (.tmp 4) (.tmp 20) rfl w.heap.size tupz rfl rfl 26 tupz (HM3.out.get 0 rfl) (by kernel_rfl) rfl tupz_one ?_))
    refine bodyPost_ret (v := .tuple #[.agg tupz, .int .i64 E]) (results_row1 Try.results63 _ _ w.heap.size 26 tupz (0, 0) _ rfl (setRow_heap _ w.heap.size _ tupz _ _ (HM3.out.get 0 rfl)) Try.underlying26 rfl (by kernel_rfl)) rfl ?_
    exact ⟨by rw [hRe, hTe] <;> rfl, below_setRow HM3.out.below (Nat.le_refl _) _⟩
end Go.Proofs.Ytlchegibfopglaa
