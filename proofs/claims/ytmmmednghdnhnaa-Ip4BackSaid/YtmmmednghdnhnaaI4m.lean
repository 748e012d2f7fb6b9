/- Slices of the call's own beside other blocks; copying into a row; slices cut by a word. -/
import Derived.Test.YtmmmednghdnhnaaI4l
import Derived.Laws.CopyRow
namespace Go.Proofs.Ytmmmednghdnhnaa
open Go.RowKit
/-- Kept where another block, of another type, alone is turned. -/
theorem Own.other {w w' : World} {base : Nat} {e : TypeId} {A : Option Addr} {n c : Nat} {f : Nat → Int} (h : Own w base e A n c f) {q : Nat} {cs : Array Value} {t : TypeId} {fr : Nat × Nat} (hq : w.heap[q]? = some (.cells cs t fr)) (hte : t ≠ e) (hw : ∀ k, k ≠ q → w'.heap[k]? = w.heap[k]?) : Own w' base e A n c f := by
  refine ⟨h.1, ?_⟩
  rcases h.2 with hh | ⟨g, cap, cur, hv, hg, hh, r⟩
  · exact .inl hh
  · have hne : g ≠ q := fun e1 => by
      subst e1
      rw [hq] at hh
      injection hh with hh
      injection hh with _ hh
      exact hte hh
    exact .inr ⟨g, cap, cur, hv, hg, (hw g hne).trans hh, r⟩
theorem Own.apart {w w2 : World} {base : Nat} {e : TypeId} {A A' : Option Addr} {n c n' c' : Nat} {f f' : Nat → Int} (h : Own w base e A n c f) (h' : Own w2 w.heap.size e A' n' c' f') : ∀ g, Value.ownBlock (.slice A n c) = some g → Value.ownBlock (.slice A' n' c') ≠ some g := fun g hg hg' => by
  have h1 := World.ownsRow.lt h g hg
  have h2 := h'.at_ g hg'
  omega
theorem step_copy_row {P : Program} {w : World} {ops : Array Oper} {op : Oper} {a : Act} {K : Act → World → Prop} {Q : Exit → Act → World → Prop} {E : Prop} (hgd : Region.wanted op (yielded ops a.tmps) = true) (d s : Operand) (t : TypeId)
    (hop : op.op = .call { callee := .builtin .copy, args := #[d, s], argTypes := #[t, t] })
    (e : TypeId) (ht : P.underlying t = some (.slice e)) (hs : (P.info? e).map (·.size) = some 1) {g o dl dc : Nat} {cur : Array Value} {T : TypeId} (hg : w.heap[g]? = some (.cells cur T (0, 0)))
    (hd : a.eval d = .slice (some ⟨g, o, none⟩) dl dc) {B m c' : Nat} {A : Option Addr} {h : Nat → Int} (hx : a.eval s = .slice A m c') (hr : Rd w B A m h) (k : Nat) (hk : k = min m dl) (hk0 : 0 < k) (hfit : o + k ≤ cur.size)
    (new : Array Value) (hnew : (cur.toList.take o ++ (nums k h).map (Value.int .u8) ++ cur.toList.drop (o + k)).toArray = new) (H : K (a.put op.dst (goInt k)) (w.setRow g new)) :
    if Region.wanted op (yielded ops a.tmps) = true then Oper.wp P op a w K Q else E := by
  rw [if_pos hgd]
  rcases hr with hm | ⟨b, off, rfl, hlt, hc⟩
  · omega
  · have hlen : ((nums k h).map (Value.int .u8)).length = k := by simp [nums_len]
    have hrun := run_copy_row (P := P) w t t op.type e g o dl dc ⟨b, off, none⟩ m c' cur T ((nums k h).map (Value.int .u8)) ht hs hg (by rw [hlen]; exact hk) (fun j v hv => by
        have hj : j < k := by
          rcases Nat.lt_or_ge j k with q | q
          · exact q
          · rw [List.getElem?_eq_none (by rw [hlen]; exact q)] at hv; cases hv
        have hplain : (⟨b, off, none⟩ : Addr).add j = ⟨b, off + j, none⟩ := by unfold Addr.add; split <;> simp_all
        rw [hplain, hc j (by omega)]
        simpa [nums, List.getElem?_map, List.getElem?_range hj] using hv) (by rw [hlen]; exact hfit) (fun v hv => by
        simp at hv
        obtain ⟨x, _, rfl⟩ := hv
        rfl)
    rw [hlen, hnew] at hrun
    unfold Oper.wp execOp
    simp only [hop, resolve, invoke, builtin, Sem.run_bind, Sem.run_pure, Result.andThen_ok, List.map_toArray, List.map_cons, List.map_nil, hd, hx, hrun]
    exact H
theorem slice_both16 (b off n c lo hi : Nat) (h1 : lo ≤ hi) (h2 : hi ≤ n) (h3 : n ≤ c) (h4 : c ≤ 9223372036854775807) : ∃ A : Option Addr,
    (∀ W, (Instr.sliceAt 24 (.slice (some ⟨b, off, none⟩) n c) (some (.int .i64 (lo : Int))) (some (.int .u16 (hi : Int))) none).run Try.prog W = .ok (.slice A (hi - lo) (c - lo)) W) ∧
    (∀ (W : World) (B : Nat) (f : Nat → Int), Rd W B (some ⟨b, off, none⟩) n f → Rd W B A (hi - lo) (fun k => f (lo + k))) := by
  have i1 : (0 : Int) ≤ (lo : Int) := by omega
  have i2 : (lo : Int) ≤ (hi : Int) := by omega
  have i3 : (hi : Int) ≤ (c : Int) := by omega
  have i4 : (0 : Int) ≤ (hi : Int) := by omega
  by_cases h : c = lo
  · have e : hi = lo := by omega
    subst e
    subst h
    refine ⟨some ⟨b, off, none⟩, fun W => ?_, fun W B f hr => .inl (by omega)⟩
    go_simp
  · refine ⟨some ⟨b, off + lo, none⟩, fun W => ?_, fun W B f hr => ?_⟩
    · go_simp
    · rcases hr with h0 | ⟨b', off', e, hb, hc⟩
      · exact .inl (by omega)
      · injection e with e
        injection e with e1 e2
        subst e1
        subst e2
        exact .inr ⟨b, off + lo, rfl, hb, fun k hk => by rw [Nat.add_assoc]; exact hc _ (by omega)⟩
end Go.Proofs.Ytmmmednghdnhnaa
