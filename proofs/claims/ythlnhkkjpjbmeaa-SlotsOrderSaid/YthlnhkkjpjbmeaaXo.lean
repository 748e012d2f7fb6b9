/- Stage 10: SlotsOrder's words: one list of two; sets of numbers; slices that grow beside slots. -/
import Derived.Test.YthlnhkkjpjbmeaaXh
import Derived.Test.YthlnhkkjpjbmeaaAMap
namespace Go.Proofs.Ythlnhkkjpjbmeaa
set_option maxRecDepth 100000
open Go.RowKit Go.Shelf
def kvI (i : Nat) : Value := .int .i64 (i : Int)
theorem keyI : KeyT Try.prog 3 kvI := keyT_int Try.underlying3 (fun i : Nat => (i : Int)) fun a b h => by omega
theorem zeroB (w : World) : (zeroValue 4).run Try.prog w = .ok (.bool false) w := by kernel_rfl
theorem look_set {w : World} {b : Nat} {G : List Nat} (h : AMap w b kvI (asetL G)) (x : Nat) : (Instr.lookup 44 (.map (some b)) (.int .i64 (x : Int)) false).run Try.prog w = .ok (.bool (decide (x ∈ G))) w := by
  have q := h.look Try.underlying44 keyI zeroB x false
  rw [asetL_find] at q
  rw [show (Value.int .i64 (x : Int)) = kvI x from rfl, q]
  by_cases e : x ∈ G
  · rw [if_pos e]
    simp [e]
  · rw [if_neg e]
    simp [e]
theorem put_set {w : World} {b : Nat} {G : List Nat} (h : AMap w b kvI (asetL G)) (x : Nat) : ∃ w', (Instr.mapUpdate 44 (.map (some b)) (.int .i64 (x : Int)) (.bool true)).run Try.prog w = .ok () w' ∧ AMap w' b kvI (asetL (if x ∈ G then G else G ++ [x])) ∧ Kept (fun k => k = b) w w' := by
  obtain ⟨w', h1, h2, h3⟩ := h.put Try.underlying44 keyI x (.bool true)
  refine ⟨w', h1, ?_, Kept.grownBy h3 fun k e => by injection e with e; exact e.symm⟩
  by_cases e : x ∈ G
  · rw [if_pos e, ← asetL_again x G e]
    exact h2
  · rw [if_neg e, ← asetL_put x G e]
    exact h2
/-- Of two lists the one behind. -/
def stK (K : List Nat) : Sl := (Sl.new 2 64).put 1 K
theorem stK_len (K : List Nat) : (stK K).ls.length = 2 := by
  unfold stK
  rw [Sl.put_len]
  rfl
theorem stK_put (K L : List Nat) : (stK K).put 1 L = stK L := Sl.put_put _ _ _ _
theorem stK_at (K : List Nat) (i : Nat) : (stK K).at_ i = if i = 1 then K else [] := by
  unfold stK
  rw [Sl.at_put (by decide), Sl.at_new]
theorem stK_fit {K : List Nat} (h1 : K.Nodup) (h2 : ∀ c, c ∈ K → c < 64) : (stK K).Fit := by
  refine ⟨Sl.ok_put (Sl.ok_new 2 64) (by decide) h1 (fun c hc => h2 c hc) fun c j _ hj => ?_, by show 64 ≤ _; omega, by rw [stK_len]; omega⟩
  rw [Sl.at_new] at hj
  cases hj
theorem stK_of1 (K : List Nat) : (stK K).of_ 1 = K := by
  unfold Sl.of_
  rw [if_pos (by decide)]
  show (stK K).at_ 1 = K
  rw [stK_at, if_pos rfl]
theorem stK_of0 (K : List Nat) : (stK K).of_ 0 = [] := by
  unfold Sl.of_
  rw [if_pos (by decide)]
  show (stK K).at_ 0 = []
  rw [stK_at, if_neg (by decide)]
theorem stK_whr {K : List Nat} (hf : (stK K).Fit) (c : Nat) : (stK K).whr c = if c ∈ K then some 1 else none := by
  by_cases h : c ∈ K
  · rw [if_pos h, Sl.whr_some hf.ok, stK_at, if_pos rfl]
    exact h
  · rw [if_neg h, Sl.whr_none]
    intro i hi
    rw [stK_at] at hi
    split at hi
    · exact h hi
    · cases hi
theorem stK_hasL (K : List Nat) : (stK K).hasL 1 = true := hasL_iff.2 ⟨by decide, by rw [stK_len]; decide⟩
theorem stK_hasC (K : List Nat) {c : Nat} (hc : c < 64) : (stK K).hasC (c : Int) = true := hasC_iff.2 ⟨by omega, by show (c : Int) < ((64 : Nat) : Int); omega⟩
theorem stK_push_new {K : List Nat} (hf : (stK K).Fit) {c : Nat} (hc : c < 64) (h : ¬ c ∈ K) : (stK K).pushE 1 (c : Int) = 0 ∧ (stK K).push 1 (c : Int) = stK (K ++ [c]) := by
  have e : (stK K).pushE 1 (c : Int) = 0 := by
    unfold Sl.pushE
    rw [stK_hasL, stK_hasC K hc, show ((c : Int)).toNat = c by omega, stK_whr hf, if_neg h]
    rfl
  refine ⟨e, ?_⟩
  unfold Sl.push
  rw [if_pos e, show ((c : Int)).toNat = c by omega]
  show (stK K).put 1 ((stK K).at_ 1 ++ [c]) = _
  rw [stK_put, stK_at, if_pos rfl]
theorem stK_push_old {K : List Nat} (hf : (stK K).Fit) {c : Nat} (hc : c < 64) (h : c ∈ K) : (stK K).pushE 1 (c : Int) = 8 ∧ (stK K).push 1 (c : Int) = stK K := by
  have e : (stK K).pushE 1 (c : Int) = 8 := by
    unfold Sl.pushE
    rw [stK_hasL, stK_hasC K hc, show ((c : Int)).toNat = c by omega, stK_whr hf, if_pos h]
    rfl
  refine ⟨e, ?_⟩
  unfold Sl.push
  rw [if_neg (by rw [e]; decide)]
theorem stK_rem {a b : List Nat} {c : Nat} (hf : (stK (a ++ c :: b)).Fit) (hc : c < 64) : (stK (a ++ c :: b)).remE (c : Int) = 0 ∧ (stK (a ++ c :: b)).rem (c : Int) = stK (a ++ b) := by
  have hm : c ∈ a ++ c :: b := by simp
  have hw : (stK (a ++ c :: b)).whr c = some 1 := by rw [stK_whr hf, if_pos hm]
  have hn := hf.ok.nodup 1
  rw [stK_at, if_pos rfl] at hn
  refine ⟨?_, ?_⟩
  · unfold Sl.remE
    rw [stK_hasC _ hc, show ((c : Int)).toNat = c by omega, hw]
    rfl
  · have hwi : (stK (a ++ c :: b)).whi (c : Int) = some 1 := by
      unfold Sl.whi
      rw [if_pos (by omega)]
      simpa using hw
    unfold Sl.rem
    rw [hwi]
    show (stK _).put 1 (((stK _).at_ 1).filter (· != ((c : Int)).toNat)) = _
    rw [stK_put, stK_at, if_pos rfl, show ((c : Int)).toNat = c by omega, filter_mid hn]
theorem stK_pop (c : Nat) (t : List Nat) : (stK (c :: t)).popE 1 = #[.int .i64 (c : Int), .bool true] ∧ (stK (c :: t)).pop 1 = stK t := by
  refine ⟨?_, ?_⟩
  · unfold Sl.popE
    rw [stK_of1]
  · unfold Sl.pop
    rw [stK_of1]
    exact stK_put _ _
theorem stK_pop0 : (stK []).popE 1 = #[.int .i64 0, .bool false] ∧ (stK []).pop 1 = stK [] := by
  refine ⟨?_, ?_⟩
  · unfold Sl.popE
    rw [stK_of1]
  · unfold Sl.pop
    rw [stK_of1]
theorem stK_new : Sl.new 2 64 = stK [] := rfl
/-- Old blocks of X turned, new ones made: others are looked after. -/
theorem ST.grown {wb W W' : World} {p : Nat} {s : Sl} {X Y R : Nat → Prop} (h : ST wb p s X W) (hk : Kept R W W') (hR : ∀ k, R k → k < W.heap.size → X k ∧ wb.heap.size ≤ k) (hY : ∀ k, Y k → X k ∨ (W.heap.size ≤ k ∧ k < W'.heap.size)) : ST wb p s Y W' := by
  obtain ⟨A, F, hp, h1, h2, h3⟩ := h
  refine ⟨A, F, hp.keep hk fun k hF hr => (h1 k hF).2 (hR k hr (hp.old k hF)).1, fun k hF => ⟨(h1 k hF).1, fun hy => ?_⟩, fun k hy => ?_, h3.trans ((hk.mono (R' := fun k => R k ∧ k < W.heap.size) fun k hl hr => ⟨hr, hl⟩).below h3.size fun k hr => (hR k hr.1 hr.2).2)⟩
  · rcases hY k hy with q | q
    · exact (h1 k hF).2 q
    · have := hp.old k hF
      omega
  · rcases hY k hy with q | q
    · exact Nat.lt_of_lt_of_le (h2 k q) hk.size
    · exact q.2
def InA (A : Option Addr) (k : Nat) : Prop := A = some ⟨k, 0, none⟩
/-- A slice of numbers that has grown. -/
theorem OwnC.grown_kept {w w' : World} {base : Nat} {e : TypeId} {A : Option Addr} {n c : Nat} {f : Nat → Value} (h : OwnC w base e 1 A n c f) (hg : w.grownBy w' (Value.ownBlock (.slice A n c))) : Kept (InA A) w w' := Kept.grownBy hg fun k hk => by
  obtain ⟨a, ha, hak⟩ := ownBlock_some hk
  unfold InA
  rw [ha, h.formA ha, hak]
theorem OwnC.grown_new {w w' : World} {base : Nat} {e : TypeId} {A A2 : Option Addr} {n n2 c c2 : Nat} {f f2 : Nat → Value} (h : OwnC w base e 1 A n c f) (h2 : OwnC w' base e 1 A2 n2 c2 f2) (ho : Value.ownBlock (.slice A2 n2 c2) = Value.ownBlock (.slice A n c) ∨ Value.ownBlock (.slice A2 n2 c2) = some w.heap.size) : ∀ k, InA A2 k → InA A k ∨ (w.heap.size ≤ k ∧ k < w'.heap.size) := fun k hk => by
  unfold InA at hk
  subst hk
  rcases ho with q | q
  · obtain ⟨a, ha, hak⟩ := ownBlock_some q.symm
    left
    unfold InA
    rw [ha, h.formA ha, hak]
  · right
    have e : k = w.heap.size := by simpa [Value.ownBlock] using q
    have := h2.ltA
    omega
theorem OwnC.inA_lo {w : World} {base : Nat} {e : TypeId} {A : Option Addr} {n c : Nat} {f : Nat → Value} (h : OwnC w base e 1 A n c f) : ∀ k, InA A k → base ≤ k ∧ k < w.heap.size := fun k hk => by
  unfold InA at hk
  subst hk
  exact ⟨h.at_ k rfl, h.ltA⟩
end Go.Proofs.Ythlnhkkjpjbmeaa
