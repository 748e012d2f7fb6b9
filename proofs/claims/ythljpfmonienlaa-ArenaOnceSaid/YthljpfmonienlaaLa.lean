/- Stage 9: the landed arena in memory; Size, Len, At. -/
import Derived.Test.YthljpfmonienlaaRs
namespace Go.Proofs.Ythljpfmonienlaa
set_option maxRecDepth 100000
open Go.RowKit
/-- The free cells, linked: from fd on those of a list. -/
def Lk (bf : Nat → Int) : Int → List Nat → Prop
  | fd, [] => fd = -1
  | fd, i :: t => fd = (i : Int) ∧ Lk bf (bf i) t
theorem Lk.same {bf bf' : Nat → Int} : ∀ {l : List Nat} {fd : Int}, Lk bf fd l → (∀ i, i ∈ l → bf' i = bf i) → Lk bf' fd l
  | [], _, h, _ => h
  | i :: t, _, h, hs => ⟨h.1, by
      rw [hs i (List.mem_cons_self ..)]
      exact Lk.same h.2 fun j hj => hs j (List.mem_cons_of_mem _ hj)⟩
/-- The landed arena's fields stand for s. -/
structure PRep (s : Ar) (fd : Int) (fs : Nat) (bf : Nat → Int) : Prop where
  link : Lk bf fd s.freed.reverse
  fresh : ∀ i, fs ≤ i → i < s.has.length → s.at_ i = 0 ∧ ¬ i ∈ s.freed
  used : ∀ i, i < fs → s.at_ i ≠ 0 ∨ i ∈ s.freed
  le : fs ≤ s.has.length
def pcell (ha : Nat → Nat) (bf : Nat → Int) (j : Nat) : Value := if j % 2 = 0 then .int .u64 (ha (j / 2) : Int) else .int .i64 (bf (j / 2))
theorem pcell_one (ha : Nat → Nat) (bf : Nat → Int) (j : Nat) : (pcell ha bf j).oneCell' = true := by unfold pcell; split <;> rfl
theorem pcell_0 (ha : Nat → Nat) (bf : Nat → Int) (j : Nat) : pcell ha bf (j * 2) = .int .u64 (ha j : Int) := by
  unfold pcell
  rw [if_pos (by omega), show j * 2 / 2 = j by omega]
theorem pcell_1 (ha : Nat → Nat) (bf : Nat → Int) (j : Nat) : pcell ha bf (j * 2 + 1) = .int .i64 (bf j) := by
  unfold pcell
  rw [if_neg (by omega), show (j * 2 + 1) / 2 = j by omega]
theorem OwnC.block {w w' : World} {base size : Nat} {e : TypeId} {g n c : Nat} {f : Nat → Value} (h : OwnC w base e size (some ⟨g, 0, none⟩) n c f) (hw : w'.heap[g]? = w.heap[g]?) : OwnC w' base e size (some ⟨g, 0, none⟩) n c f := by
  refine ⟨h.1, ?_⟩
  rcases h.2 with hh | ⟨g', cap, cur, hv, hg, hh, r⟩
  · exact .inl hh
  · have hv' := hv
    injection hv' with h1 h2 h3
    injection h1 with h1
    injection h1 with h1
    subst h1
    exact .inr ⟨g, cap, cur, hv, hg, hw.trans hh, r⟩
/-- The landed arena at a block, as fields. -/
structure PX (w : World) (p g n c : Nat) (fd : Int) (fs lv S : Nat) (ha : Nat → Nat) (bf : Nat → Int) (F : Nat → Prop) : Prop where
  blk : w.heap[p]? = some (.cells #[.slice (some ⟨g, 0, none⟩) n c, .int .i64 fd, .int .i64 (fs : Int), .int .i64 (lv : Int), .int .u64 (S : Int)] 53 (0, 0))
  row : OwnC w 0 65 2 (some ⟨g, 0, none⟩) n c (pcell ha bf)
  mp : F p
  mg : F g
  old : ∀ k, F k → k < w.heap.size
  pos : 0 < n
theorem PX.ne {w : World} {p g n c : Nat} {fd : Int} {fs lv S : Nat} {ha : Nat → Nat} {bf : Nat → Int} {F : Nat → Prop} (h : PX w p g n c fd fs lv S ha bf F) : p ≠ g := OwnC.ne h.row h.blk (by decide)
theorem PX.keep {w w' : World} {p g n c : Nat} {fd : Int} {fs lv S : Nat} {ha : Nat → Nat} {bf : Nat → Int} {F R : Nat → Prop} (h : PX w p g n c fd fs lv S ha bf F) (hk : Kept R w w') (hd : ∀ k, F k → ¬ R k) : PX w' p g n c fd fs lv S ha bf F :=
  ⟨(hk.block p (h.old p h.mp) (hd p h.mp)).trans h.blk, h.row.block (hk.block g (h.old g h.mg) (hd g h.mg)), h.mp, h.mg, fun k hF => Nat.lt_of_lt_of_le (h.old k hF) hk.size, h.pos⟩
theorem PX.step {w w' : World} {p g n c : Nat} {fd : Int} {fs lv S : Nat} {ha : Nat → Nat} {bf : Nat → Int} {F : Nat → Prop} (h : PX w p g n c fd fs lv S ha bf F) (hb : Below w.heap.size w w') : PX w' p g n c fd fs lv S ha bf F :=
  h.keep (Kept.of_below hb fun _ => False) fun _ _ q => q
theorem PX.cap {w : World} {p g n c : Nat} {fd : Int} {fs lv S : Nat} {ha : Nat → Nat} {bf : Nat → Int} {F : Nat → Prop} (h : PX w p g n c fd fs lv S ha bf F) : n ≤ c := h.row.cap
theorem PX.cap9 {w : World} {p g n c : Nat} {fd : Int} {fs lv S : Nat} {ha : Nat → Nat} {bf : Nat → Int} {F : Nat → Prop} (h : PX w p g n c fd fs lv S ha bf F) : c ≤ 9223372036854775807 := by
  have := h.row.cap_le
  unfold maxLen at this
  omega
theorem PX.c0 {w : World} {p g n c : Nat} {fd : Int} {fs lv S : Nat} {ha : Nat → Nat} {bf : Nat → Int} {F : Nat → Prop} (h : PX w p g n c fd fs lv S ha bf F) {j : Nat} (hj : j < n) : w.cell? ⟨g, j * 2, none⟩ = some (.int .u64 (ha j : Int)) := by
  obtain ⟨g', e, _, _, hc, _⟩ := h.row.lies h.pos
  injection e with e
  injection e with e
  subst e
  rw [← pcell_0 ha bf j]
  exact hc _ (by omega)
theorem PX.c1 {w : World} {p g n c : Nat} {fd : Int} {fs lv S : Nat} {ha : Nat → Nat} {bf : Nat → Int} {F : Nat → Prop} (h : PX w p g n c fd fs lv S ha bf F) {j : Nat} (hj : j < n) : w.cell? ⟨g, j * 2 + 1, none⟩ = some (.int .i64 (bf j)) := by
  obtain ⟨g', e, _, _, hc, _⟩ := h.row.lies h.pos
  injection e with e
  injection e with e
  subst e
  rw [← pcell_1 ha bf j]
  exact hc _ (by omega)
theorem PX.fz {w : World} {p g n c : Nat} {fd : Int} {fs lv S : Nat} {ha : Nat → Nat} {bf : Nat → Int} {F : Nat → Prop} (h : PX w p g n c fd fs lv S ha bf F) (k : Nat) : w.frozen? ⟨g, k, none⟩ = false := by
  obtain ⟨g', e, _, _, _, hf⟩ := h.row.lies h.pos
  injection e with e
  injection e with e
  subst e
  exact hf k
/-- .. as what it stands for. -/
def PA (w : World) (p : Nat) (s : Ar) (F : Nat → Prop) : Prop := ∃ g c fd fs bf, PX w p g s.has.length c fd fs s.count s.serial s.at_ bf F ∧ PRep s fd fs bf
theorem psize_c (w : World) (p : Nat) (A : Option Addr) (n c : Nat) (h : w.cell? ⟨p, 0, none⟩ = some (.slice A n c)) : Calls Try.prog 19 #[.pointer (some ⟨p, 0, none⟩)] w (ret (.int .i64 (n : Int)) w) := by
  go_enter Try.func19, Try.ntmps19
  go_wp2_with fail
  go_ret
  exact ⟨rfl, Below.refl _ _⟩
theorem psize_0 (w : World) : Calls Try.prog 19 #[.pointer none] w (ret (.int .i64 0) w) := by
  go_enter Try.func19, Try.ntmps19
  go_wp2_with fail
  go_ret
  exact ⟨rfl, Below.refl _ _⟩
theorem plen_c (w : World) (p : Nat) (v : Int) (h : w.cell? ⟨p, 3, none⟩ = some (.int .i64 v)) : Calls Try.prog 17 #[.pointer (some ⟨p, 0, none⟩)] w (ret (.int .i64 v) w) := by
  go_enter Try.func17, Try.ntmps17
  go_wp2_with fail
  go_ret
  exact ⟨rfl, Below.refl _ _⟩
theorem plen_0 (w : World) : Calls Try.prog 17 #[.pointer none] w (ret (.int .i64 0) w) := by
  go_enter Try.func17, Try.ntmps17
  go_wp2_with fail
  go_ret
  exact ⟨rfl, Below.refl _ _⟩
end Go.Proofs.Ythljpfmonienlaa
