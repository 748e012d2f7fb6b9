/- The closure that lays a number into a header; copying into a slice of the call's own. -/
import Derived.Test.YtmmmednghdnhnaaI4a
import Derived.Laws.IdiomCopy
namespace Go.Proofs.Ytmmmednghdnhnaa
open Go.RowKit
/-- m numbers of h, laid over f from place o on. -/
def over (o m : Nat) (h f : Nat → Int) (k : Nat) : Int := if o ≤ k ∧ k < o + m then h (k - o) else f k
theorem over_byt {o m : Nat} {h f : Nat → Int} (hh : Byt h) (hf : Byt f) : Byt (over o m h f) := fun k => by
  unfold over
  split
  · exact hh _
  · exact hf _
theorem own_cells {base g n c : Nat} {e : TypeId} {h : Nat → Int} : ∀ (m o : Nat) (w : World) (f : Nat → Int) (i : Nat), Own w base e (some ⟨g, 0, none⟩) n c f →
    Own (w.setCells g (o + i) ((nums m fun k => h (i + k)).map (Value.int .u8))) base e (some ⟨g, 0, none⟩) n c (over (o + i) m (fun k => h (i + k)) f)
  | 0, o, w, f, i, H => by
    have e1 : over (o + i) 0 (fun k => h (i + k)) f = f := by
      funext k
      unfold over
      rw [if_neg (by omega)]
    rw [e1]
    exact H
  | m + 1, o, w, f, i, H => by
    have e1 : (nums (m + 1) fun k => h (i + k)) = h i :: nums m fun k => h (i + 1 + k) := by
      unfold nums
      rw [List.range_succ_eq_map, List.map_cons, List.map_map]
      congr 1
      exact List.map_congr_left fun k _ => by
        show h (i + (k + 1)) = h (i + 1 + k)
        congr 1
        omega
    rw [e1]
    have q := own_cells (h := h) m o (w.setCell ⟨g, o + i, none⟩ (.int .u8 (h i))) _ (i + 1) (H.set_ (o + i) (h i))
    refine Own.same q fun k hk => ?_
    unfold over upd
    by_cases a : o + i ≤ k ∧ k < o + i + (m + 1)
    · rw [if_pos a]
      by_cases b : k = o + i
      · subst b
        rw [if_neg (by omega), if_pos rfl]
        exact congrArg h (by omega)
      · rw [if_pos (by omega)]
        exact congrArg h (by omega)
    · rw [if_neg a, if_neg (by omega), if_neg (by omega)]
theorem below_setCells {b B : Nat} {a : World} (hb : B ≤ b) : ∀ (vs : List Value) (o : Nat) (w : World), Below B a w → Below B a (w.setCells b o vs)
  | [], _, _, h => h
  | v :: r, o, _, h => below_setCells hb r (o + 1) _ (h.setCell (by exact hb) v)
theorem other_setCells {b k : Nat} (hk : k ≠ b) : ∀ (vs : List Value) (o : Nat) (w : World), (w.setCells b o vs).heap[k]? = w.heap[k]?
  | [], _, _ => rfl
  | v :: r, o, w => (other_setCells hk r (o + 1) _).trans (Below.heap_setCell w ⟨b, o, none⟩ v k hk)
theorem size_setCells {b : Nat} : ∀ (vs : List Value) (o : Nat) (w : World), (w.setCells b o vs).heap.size = w.heap.size
  | [], _, _ => rfl
  | v :: r, o, w => (size_setCells r (o + 1) _).trans (by simp)
/-- 'copy(b[o:..], s)' into a slice of the call's own. -/
theorem run_copy_own {P : Program} {w : World} (base t ty e : TypeId) (ht : P.underlying t = some (.slice e)) (hs : (P.info? e).map (·.size) = some 1) {g n c : Nat} {f : Nat → Int} (hown : Own w base e (some ⟨g, 0, none⟩) n c f)
    {o dl dc : Nat} {D : Option Addr} (hD : 0 < dl → D = some ⟨g, o, none⟩) (hfit : o + dl ≤ n) {B m c' : Nat} {A : Option Addr} {h : Nat → Int} (hr : Rd w B A m h) :
    ∃ k, k = min m dl ∧ (Builtin.copy_ #[t, t] ty #[.slice D dl dc, .slice A m c']).run P w = .ok (goInt k) (w.setCells g o ((nums k h).map (Value.int .u8))) ∧ Own (w.setCells g o ((nums k h).map (Value.int .u8))) base e (some ⟨g, 0, none⟩) n c (over o k h f) := by
  refine ⟨min m dl, rfl, ?_, ?_⟩
  · by_cases h0 : min m dl = 0
    · rw [h0]
      have := run_copy_none (P := P) w t t ty e D A dl dc m c' ht hs h0
      rw [this]
      rfl
    · have hD' := hD (by omega)
      subst hD'
      rcases hr with hm | ⟨b, off, rfl, hlt, hc⟩
      · omega
      · obtain ⟨g', hg', _, _, hcell, hfro⟩ := hown.lies (by omega)
        injection hg' with hg'
        injection hg' with hg'
        subst hg'
        have := run_copy_cells (P := P) w t t ty e g o dl dc ⟨b, off, none⟩ m c' ((nums (min m dl) h).map (Value.int .u8)) ht hs (by simp [nums_len]) (fun j v hv => by
            have hj : j < min m dl := by
              rcases Nat.lt_or_ge j (min m dl) with q | q
              · exact q
              · rw [List.getElem?_eq_none (by simpa [nums_len] using q)] at hv; cases hv
            have hplain : (⟨b, off, none⟩ : Addr).add j = ⟨b, off + j, none⟩ := by unfold Addr.add; split <;> simp_all
            rw [hplain, hc j (by omega)]
            simpa [nums, List.getElem?_map, List.getElem?_range hj] using hv) (fun j hj => by
            have hj' : j < min m dl := by simpa [nums_len] using hj
            rw [hcell (o + j) (by omega)]
            rfl) (fun j _ => hfro (o + j)) (fun v hv => by
            simp at hv
            obtain ⟨x, _, rfl⟩ := hv
            rfl)
        rw [this]
        simp [nums_len]
  · have q := own_cells (h := h) (min m dl) o w f 0 hown
    have e1 : (fun k => h (0 + k)) = h := by funext k; rw [Nat.zero_add]
    rw [Nat.add_zero, e1] at q
    exact q
theorem step_copy_rd {P : Program} {w : World} {ops : Array Oper} {op : Oper} {a : Act} {K : Act → World → Prop} {Q : Exit → Act → World → Prop} {E : Prop} (hgd : Region.wanted op (yielded ops a.tmps) = true) (d s : Operand) (t : TypeId)
    (hop : op.op = .call { callee := .builtin .copy, args := #[d, s], argTypes := #[t, t] })
    (base : Nat) (e : TypeId) (ht : P.underlying t = some (.slice e)) (hs : (P.info? e).map (·.size) = some 1) {g n c : Nat} {f : Nat → Int} (hown : Own w base e (some ⟨g, 0, none⟩) n c f)
    {D : Option Addr} {dl dc : Nat} (hd : a.eval d = .slice D dl dc) (o : Nat) (hD : 0 < dl → D = some ⟨g, o, none⟩) (hfit : o + dl ≤ n) {B m c' : Nat} {A : Option Addr} {h : Nat → Int} (hx : a.eval s = .slice A m c') (hr : Rd w B A m h)
    (k : Nat) (hk : k = min m dl) (H : Own (w.setCells g o ((nums k h).map (Value.int .u8))) base e (some ⟨g, 0, none⟩) n c (over o k h f) → K (a.put op.dst (goInt k)) (w.setCells g o ((nums k h).map (Value.int .u8)))) :
    if Region.wanted op (yielded ops a.tmps) = true then Oper.wp P op a w K Q else E := by
  rw [if_pos hgd]
  obtain ⟨k', hk', hrun, h2⟩ := run_copy_own (P := P) base t op.type e ht hs hown (dc := dc) hD hfit hr (c' := c')
  obtain rfl : k = k' := hk.trans hk'.symm
  unfold Oper.wp execOp
  simp only [hop, resolve, invoke, builtin, Sem.run_bind, Sem.run_pure, Result.andThen_ok, List.map_toArray, List.map_cons, List.map_nil, hd, hx, hrun]
  exact H h2
set_option maxHeartbeats 1000000 in
theorem lay_any (W : World) (p g n c at_ : Nat) (x : Int) (f : Nat → Int) (base : Nat) (t et : TypeId) (hp : W.heap[p]? = some (.cells #[.slice (some ⟨g, 0, none⟩) n c] t (0, 0))) (ho : Own W base et (some ⟨g, 0, none⟩) n c f) (hat : at_ + 1 < n) (hn : n ≤ 4611686018427387904) (hx : 0 ≤ x) (hx' : x ≤ 65535) (hpg : p ≠ g) :
    Calls Try.prog 22 #[.int .i64 (at_ : Int), .int .u16 x, .pointer (some ⟨p, 0, none⟩)] W fun e w' => e = .returned (.tuple #[]) ∧ w' = ((W.setCell ⟨g, at_, none⟩ (.int .u8 (x / 256))).setCell ⟨g, at_ + 1, none⟩ (.int .u8 (x % 256))).drew := by
  obtain ⟨g', hg', _, _, hcell, hfro⟩ := ho.lies (by omega)
  injection hg' with hg'
  injection hg' with hg'
  subst hg'
  have c0 : W.cell? ⟨p, 0, none⟩ = some (.slice (some ⟨g, 0, none⟩) n c) := blk_cell hp 0
  have c1 := hcell at_ (by omega)
  have c2 := hcell (at_ + 1) (by omega)
  have f1 := hfro at_
  have f2 := hfro (at_ + 1)
  have i0 : (0 : Int) ≤ (at_ : Int) := by omega
  have i1 : (at_ : Int) < (n : Int) := by omega
  have i2 : (0 : Int) ≤ (at_ : Int) + 1 := by omega
  have i3 : (at_ : Int) + 1 < (n : Int) := by omega
  have i4 : ((at_ : Int)).toNat = at_ := by omega
  have i5 : ((at_ : Int) + 1).toNat = at_ + 1 := by omega
  have i6 : IntKind.i64.wrap ((at_ : Int) + 1) = (at_ : Int) + 1 := by
    rw [IntKind.wrap_i64]
    omega
  have hq1 : IntKind.u8.wrap (x / 256) = x / 256 := by
    simp only [IntKind.wrap_u8]
    omega
  have hq2 : IntKind.u8.wrap x = x % 256 := by simp only [IntKind.wrap_u8]
  clear hcell hfro ho hp
  go_enter Try.func22, Try.ntmps22
  go_region_held3 (fun w' => w'.cell? ⟨p, 0, none⟩ = some (.slice (some ⟨g, 0, none⟩) n c)) (first | (with_reducible exact c0) | (go_simp)) (fail)
  all_goals exact bodyPost_end (v := .tuple #[]) (by simp [results, Try.results22]) rfl ⟨rfl, rfl⟩
end Go.Proofs.Ytmmmednghdnhnaa
