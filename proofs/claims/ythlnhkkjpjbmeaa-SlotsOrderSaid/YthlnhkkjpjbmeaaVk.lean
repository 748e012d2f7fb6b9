/- Stage 10: going over a list: a walk's place is appended. -/
import Derived.Test.YthlnhkkjpjbmeaaVj
namespace Go.Proofs.Ythlnhkkjpjbmeaa
set_option maxRecDepth 100000
open Go.RowKit Go.Shelf
attribute [local go_sem] Oper.semAt_some
def ApD (u : World) (b : Nat) (V : Option Addr) (W : World) (A2 : Option Addr) (c2 : Nat) : Prop :=
  OwnC W 0 68 1 A2 1 c2 (fun _ => .pointer (some ⟨b, 0, none⟩)) ∧ Kept (fun k => V = some ⟨k, 0, none⟩) u W ∧ ∀ g, A2 = some ⟨g, 0, none⟩ → V = some ⟨g, 0, none⟩ ∨ u.heap.size ≤ g
def ApI (u : World) (b : Nat) (V : Option Addr) (l6 l7 : Bool) (W : World) (A2 : Option Addr) (c2 : Nat) : Prop :=
  (l6 = false → l7 = false) ∧ (l7 = false → Below u.heap.size u W ∧ (l6 = false → W.heap.size = u.heap.size) ∧ (l6 = true → W.heap[u.heap.size]? = some (.cells #[.pointer (some ⟨b, 0, none⟩)] 68 (0, 0)))) ∧ (l7 = true → ApD u b V W A2 c2)
theorem ApI.kept {u : World} {b : Nat} {V : Option Addr} {l6 l7 : Bool} {W : World} {A2 : Option Addr} {c2 : Nat} (h : ApI u b V l6 l7 W A2 c2) : Kept (fun k => V = some ⟨k, 0, none⟩) u W := by
  cases l7 with
  | false => exact Kept.of_below (h.2.1 rfl).1 _
  | true => exact (h.2.2 rfl).2.1
theorem Try.infoWP : (Try.prog.info? 68).map (fun i => (i.zero, i.size, i.bytes)) = some (some (.pointer none), 1, 8) := by kernel_rfl
theorem OwnC.formA {w : World} {base size : Nat} {e : TypeId} {A : Option Addr} {n c : Nat} {f : Nat → Value} (h : OwnC w base e size A n c f) {a : Addr} (hA : A = some a) : a = ⟨a.block, 0, none⟩ := by
  rcases h.2 with ⟨hh, _⟩ | ⟨g, cap, cur, hv, _⟩
  · injection hh with hh
    rw [hA] at hh
    cases hh
  · injection hv with hh
    rw [hA] at hh
    injection hh with hh
    rw [hh]
theorem ap_run {u : World} {b : Nat} {V : Option Addr} {cV : Nat} (hv : OwnC u 0 68 1 V 0 cV (wkf none)) (W : World) (hb : Below u.heap.size u W) (hz : W.heap[u.heap.size]? = some (.cells #[.pointer (some ⟨b, 0, none⟩)] 68 (0, 0))) :
    ∃ A3 c3 w', (Builtin.append_ #[51, 51] 51 #[.slice V 0 cV, .slice (some ⟨u.heap.size, 0, none⟩) 1 1]).run Try.prog W = .ok (.slice A3 1 c3) w' ∧ ApD u b V w' A3 c3 := by
  obtain ⟨i0, hi0, hz0, hz1, hz2⟩ := info_parts Try.infoWP
  have hvW := hv.below hb
  have hrd : RdC W W.heap.size (some ⟨u.heap.size, 0, none⟩) (1 * 1) (fun _ => .pointer (some ⟨b, 0, none⟩)) := .inr ⟨_, 0, rfl, lt_heap hz, fun k hk => by
    obtain rfl : k = 0 := by omega
    exact blk_cell hz 0⟩
  obtain ⟨A3, c3, w', h1, h2, h3, h4⟩ := run_append_vals 0 51 51 68 i0 (.pointer none) 1 Try.underlying51 hi0 hz0 hz1 rfl (by decide) hvW (c' := 1) hrd (fun _ _ => rfl) (by unfold maxLen; omega) (by rw [hz2]; omega) (Nat.zero_le _)
  rw [Nat.zero_add] at h1 h2 h4
  refine ⟨A3, c3, w', h1, h2.same fun k _ => ?_, ?_, fun g e => ?_⟩
  · unfold catV
    rw [if_neg (by omega)]
  · refine (Kept.of_below hb _).trans (Kept.grownBy h3 fun k hk => ?_) fun _ _ r => r
    obtain ⟨a, ha, hak⟩ := ownBlock_some hk
    rw [ha, hv.formA ha, hak]
  · subst e
    rcases h4 with q | q
    · obtain ⟨a, ha, hak⟩ := ownBlock_some q.symm
      left
      rw [ha, hv.formA ha, hak]
    · right
      have : g = W.heap.size := by simpa [Value.ownBlock] using q
      have := hb.size
      omega
section
variable {w : World} {p A cA B cB m n : Nat} {V : Option Addr} {cV : Nat} {fl : Nat → Int} {pv nx sz : Nat → Nat}
/-- A walk has begun. -/
theorem SX.begin_ {u : World} {F F' : Nat → Prop} {b o : Nat} {W : World} {A2 : Option Addr} {c2 : Nat} (h : SX u p A cA B cB m n V cV fl pv nx sz none F) (hD : ApD u b V W A2 c2) (hb : u.heap[b]? = some (.cells #[.int .i64 (o : Int)] 70 (0, 0)))
    (hF : ∀ k, F k → F' k) (hFb : F' b) (hFn : ∀ k, u.heap.size ≤ k → k < W.heap.size → F' k) (ho : ∀ k, F' k → k < W.heap.size) :
    SX (W.setCell ⟨p, 2, none⟩ (.slice A2 1 c2)) p A cA B cB m n A2 c2 fl pv nx sz (some (b, o)) F' ∧ Kept F u (W.setCell ⟨p, 2, none⟩ (.slice A2 1 c2)) := by
  obtain ⟨hr, hk, hA⟩ := hD
  have hsz : (W.setCell ⟨p, 2, none⟩ (.slice A2 1 c2)).heap.size = W.heap.size := by simp
  have hK : Kept F u (W.setCell ⟨p, 2, none⟩ (.slice A2 1 c2)) := (hk.mono fun k _ e => h.mV k e).setCell (p := ⟨p, 2, none⟩) (.inl h.mp) _
  have hoth : ∀ k, k ≠ p → k < u.heap.size → V ≠ some ⟨k, 0, none⟩ → (W.setCell ⟨p, 2, none⟩ (.slice A2 1 c2)).heap[k]? = u.heap[k]? := fun k h1 h2 h3 => (Below.heap_setCell W ⟨p, 2, none⟩ _ k h1).trans (hk.block k h2 h3)
  have hpW : W.heap[p]? = u.heap[p]? := hk.block p (h.old p h.mp) fun e => h.pV e rfl
  have hbp : b ≠ p := fun e => by
    subst e
    rw [h.blk] at hb
    injection hb with hb
    injection hb with _ hb _
    exact absurd hb (by decide)
  have hbV : V ≠ some ⟨b, 0, none⟩ := fun e => by
    have hv := h.rowV
    rw [e] at hv
    exact hv.ne hb (by decide) rfl
  have hA2p : ∀ g, A2 = some ⟨g, 0, none⟩ → g ≠ p := fun g e q => by
    subst q
    have := hr
    rw [e] at this
    exact this.ne (hpW.trans h.blk) (by decide) rfl
  refine ⟨⟨?_, h.rowA.block (hoth A h.pA.symm (h.old A h.mA) fun e => h.AV e rfl), h.rowB.block (hoth B h.pB.symm (h.old B h.mB) fun e => h.BV e rfl), ?_, fun x e => ?_, hF p h.mp, hF A h.mA, hF B h.mB, fun g e => ?_, fun k q => by rw [hsz]; exact ho k q, h.pos, h.mpos⟩, hK⟩
  · exact blk_set (hpW.trans h.blk) 2 _
  · exact hr.keepAny fun g e => Below.heap_setCell W ⟨p, 2, none⟩ _ g (hA2p g e)
  · injection e with e
    subst e
    exact ⟨(hoth b hbp (lt_heap hb) hbV).trans hb, hFb⟩
  · rcases hA g e with q | q
    · exact hF g (h.mV g q)
    · have := hr
      rw [e] at this
      exact hFn g q this.ltA
end
end Go.Proofs.Ythlnhkkjpjbmeaa
