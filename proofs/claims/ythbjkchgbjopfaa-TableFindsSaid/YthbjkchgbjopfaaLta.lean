/- Stage 13: the landed table in memory. -/
import Derived.Test.YthbjkchgbjopfaaTx
import Derived.Test.YthbjkchgbjopfaaGen
namespace Go.Proofs.Ythbjkchgbjopfaa
set_option maxRecDepth 100000
open Go.RowKit Go.Shelf
/-- The state of a place, as the landed table has it. -/
def stc (s : Tb) (k : Nat) : Nat := if s.ful k then 1 else if s.mrk k then 2 else 0
theorem stc_lt (s : Tb) (k : Nat) : stc s k < 3 := by
  unfold stc
  split
  · decide
  · split <;> decide
theorem stc_ful {s : Tb} {k : Nat} (h : s.ful k = true) : stc s k = 1 := by
  unfold stc
  rw [if_pos h]
theorem stc_not {s : Tb} {k : Nat} (h : s.ful k = false) : stc s k ≠ 1 := by
  unfold stc
  rw [if_neg (by rw [h]; exact Bool.false_ne_true)]
  split <;> decide
theorem stc_mrk {s : Tb} {k : Nat} (h : s.ful k = false) (h' : s.mrk k = true) : stc s k = 2 := by
  unfold stc
  rw [if_neg (by rw [h]; exact Bool.false_ne_true), if_pos h']
theorem stc_no {s : Tb} {k : Nat} (h : s.ful k = false) (h' : s.mrk k = false) : stc s k = 0 := by
  unfold stc
  rw [if_neg (by rw [h]; exact Bool.false_ne_true), if_neg (by rw [h']; exact Bool.false_ne_true)]
def tcl (s : Tb) (k : Nat) : Value := if k % 3 = 0 then .int .u8 (stc s (k / 3) : Int) else if k % 3 = 1 then .int .u64 (s.eh (k / 3) : Int) else .int .u32 (s.ew (k / 3) : Int)
theorem tcl_one (s : Tb) (k : Nat) : (tcl s k).oneCell' = true := by
  unfold tcl
  split
  · rfl
  · split <;> rfl
theorem tcl_0 (s : Tb) (j : Nat) : tcl s (j * 3) = .int .u8 (stc s j : Int) := by
  unfold tcl
  rw [if_pos (by omega), show j * 3 / 3 = j by omega]
theorem tcl_1 (s : Tb) (j : Nat) : tcl s (j * 3 + 1) = .int .u64 (s.eh j : Int) := by
  unfold tcl
  rw [if_neg (by omega), if_pos (by omega), show (j * 3 + 1) / 3 = j by omega]
theorem tcl_2 (s : Tb) (j : Nat) : tcl s (j * 3 + 2) = .int .u32 (s.ew j : Int) := by
  unfold tcl
  rw [if_neg (by omega), if_neg (by omega), show (j * 3 + 2) / 3 = j by omega]
theorem tcl_put (s : Tb) (p h x k : Nat) : tcl (s.put p h x) k = updV (updV (updV (tcl s) (p * 3) (.int .u8 1)) (p * 3 + 1) (.int .u64 (h : Int))) (p * 3 + 2) (.int .u32 (x : Int)) k := by
  unfold updV
  by_cases e2 : k = p * 3 + 2
  · rw [if_pos e2, e2, tcl_2]
    show Value.int .u32 (updN s.ew p x p : Int) = _
    rw [updN_at]
  · rw [if_neg e2]
    by_cases e1 : k = p * 3 + 1
    · rw [if_pos e1, e1, tcl_1]
      show Value.int .u64 (updN s.eh p h p : Int) = _
      rw [updN_at]
    · rw [if_neg e1]
      by_cases e0 : k = p * 3
      · rw [if_pos e0, e0, tcl_0, stc_ful (s := s.put p h x) (updB_at _ _ _)]
        rfl
      · rw [if_neg e0]
        unfold tcl stc
        show (if k % 3 = 0 then Value.int .u8 ((if updB s.ful p true (k / 3) then 1 else if updB s.mrk p false (k / 3) then 2 else 0 : Nat) : Int) else if k % 3 = 1 then .int .u64 (updN s.eh p h (k / 3) : Int) else .int .u32 (updN s.ew p x (k / 3) : Int)) = _
        by_cases q : k / 3 = p
        · omega
        · rw [updB_ne q, updB_ne q, updN_ne q, updN_ne q]
theorem tcl_gone (s : Tb) (p k : Nat) : tcl (s.gone p) k = updV (updV (updV (tcl s) (p * 3) (.int .u8 2)) (p * 3 + 1) (.int .u64 0)) (p * 3 + 2) (.int .u32 0) k := by
  unfold updV
  by_cases e2 : k = p * 3 + 2
  · rw [if_pos e2, e2, tcl_2]
    show Value.int .u32 (updN s.ew p 0 p : Int) = _
    rw [updN_at]
    rfl
  · rw [if_neg e2]
    by_cases e1 : k = p * 3 + 1
    · rw [if_pos e1, e1, tcl_1]
      show Value.int .u64 (updN s.eh p 0 p : Int) = _
      rw [updN_at]
      rfl
    · rw [if_neg e1]
      by_cases e0 : k = p * 3
      · rw [if_pos e0, e0, tcl_0, stc_mrk (s := s.gone p) (updB_at _ _ _) (updB_at _ _ _)]
        rfl
      · rw [if_neg e0]
        unfold tcl stc
        show (if k % 3 = 0 then Value.int .u8 ((if updB s.ful p false (k / 3) then 1 else if updB s.mrk p true (k / 3) then 2 else 0 : Nat) : Int) else if k % 3 = 1 then .int .u64 (updN s.eh p 0 (k / 3) : Int) else .int .u32 (updN s.ew p 0 (k / 3) : Int)) = _
        by_cases q : k / 3 = p
        · omega
        · rw [updB_ne q, updB_ne q, updN_ne q, updN_ne q]
/-- A number of places divides 2 to the 64th: a sum that wraps round is still right. -/
theorem powJ_dvd {j : Nat} (hj : j ≤ 15) : ∃ m, 18446744073709551616 = powJ j * m := by
  match j, hj with
  | 0, _ => exact ⟨2305843009213693952, by decide⟩
  | 1, _ => exact ⟨1152921504606846976, by decide⟩
  | 2, _ => exact ⟨576460752303423488, by decide⟩
  | 3, _ => exact ⟨288230376151711744, by decide⟩
  | 4, _ => exact ⟨144115188075855872, by decide⟩
  | 5, _ => exact ⟨72057594037927936, by decide⟩
  | 6, _ => exact ⟨36028797018963968, by decide⟩
  | 7, _ => exact ⟨18014398509481984, by decide⟩
  | 8, _ => exact ⟨9007199254740992, by decide⟩
  | 9, _ => exact ⟨4503599627370496, by decide⟩
  | 10, _ => exact ⟨2251799813685248, by decide⟩
  | 11, _ => exact ⟨1125899906842624, by decide⟩
  | 12, _ => exact ⟨562949953421312, by decide⟩
  | 13, _ => exact ⟨281474976710656, by decide⟩
  | 14, _ => exact ⟨140737488355328, by decide⟩
  | 15, _ => exact ⟨70368744177664, by decide⟩
  | j + 16, h => exact absurd h (by omega)
theorem st_wrap {s : Tb} (hm : mayI (s.n : Int) = true) (h i : Nat) : (h + i) % 18446744073709551616 % s.n = s.st h i := by
  obtain ⟨j, hj, e⟩ := mayI_pow hm
  obtain ⟨m, hm⟩ := powJ_dvd hj
  have e' : s.n = powJ j := by omega
  unfold Tb.st
  rw [hm, e', Nat.mod_mul_right_mod, Nat.mod_add_mod]
/-- The landed table at a block, as fields: its row's cells f, of n places; how many are empty, have an entry, have a mark. -/
structure PTY (w : World) (p g n c : Nat) (e en mk : Int) (f : Nat → Value) (F : Nat → Prop) : Prop where
  blk : w.heap[p]? = some (.cells #[.slice (some ⟨g, 0, none⟩) n c, .int .i64 e, .int .i64 en, .int .i64 mk] 57 (0, 0))
  row : OwnC w 0 75 3 (some ⟨g, 0, none⟩) n c f
  mp : F p
  mg : F g
  old : ∀ k, F k → k < w.heap.size
  may : mayI (n : Int) = true
section
variable {w w' : World} {p g n c : Nat} {e en mk : Int} {f : Nat → Value} {F : Nat → Prop}
theorem PTY.ne (h : PTY w p g n c e en mk f F) : p ≠ g := OwnC.ne h.row h.blk (by decide)
theorem PTY.keep {R : Nat → Prop} (h : PTY w p g n c e en mk f F) (hk : Kept R w w') (hd : ∀ k, F k → ¬ R k) : PTY w' p g n c e en mk f F :=
  ⟨(hk.block p (h.old p h.mp) (hd p h.mp)).trans h.blk, h.row.block (hk.block g (h.old g h.mg) (hd g h.mg)), h.mp, h.mg, fun k hF => Nat.lt_of_lt_of_le (h.old k hF) hk.size, h.may⟩
theorem PTY.step (h : PTY w p g n c e en mk f F) (hb : Below w.heap.size w w') : PTY w' p g n c e en mk f F := h.keep (Kept.of_below hb fun _ => False) fun _ _ q => q
theorem PTY.pos (h : PTY w p g n c e en mk f F) : 8 ≤ n ∧ n ≤ 262144 := by
  obtain ⟨n, e, h1, h2⟩ := mayI_pos h.may
  omega
theorem PTY.cap (h : PTY w p g n c e en mk f F) : n ≤ c := h.row.cap
theorem PTY.cap9 (h : PTY w p g n c e en mk f F) : c ≤ 9223372036854775807 := by
  have := h.row.cap_le
  unfold maxLen at this
  omega
theorem PTY.cell (h : PTY w p g n c e en mk f F) {k : Nat} (hk : k < n * 3) : w.cell? ⟨g, k, none⟩ = some (f k) := by
  obtain ⟨g', e, _, _, hc, _⟩ := h.row.lies (by have := h.pos; omega)
  injection e with e
  injection e with e
  subst e
  exact hc _ hk
theorem PTY.fz (h : PTY w p g n c e en mk f F) (k : Nat) : w.frozen? ⟨g, k, none⟩ = false := by
  obtain ⟨g', e, _, _, _, hf⟩ := h.row.lies (by have := h.pos; omega)
  injection e with e
  injection e with e
  subst e
  exact hf k
theorem PTY.drew (h : PTY w p g n c e en mk f F) : PTY w.drew p g n c e en mk f F := h.step (Below.refl _ w).drew
theorem PTY.set1 (h : PTY w p g n c e en mk f F) (v : Int) : PTY (w.setCell ⟨p, 1, none⟩ (.int .i64 v)) p g n c v en mk f F :=
  ⟨blk_set h.blk 1 _, h.row.block (Below.heap_setCell w ⟨p, 1, none⟩ _ g (Ne.symm h.ne)), h.mp, h.mg, fun k hF => by simpa using h.old k hF, h.may⟩
theorem PTY.set2 (h : PTY w p g n c e en mk f F) (v : Int) : PTY (w.setCell ⟨p, 2, none⟩ (.int .i64 v)) p g n c e v mk f F :=
  ⟨blk_set h.blk 2 _, h.row.block (Below.heap_setCell w ⟨p, 2, none⟩ _ g (Ne.symm h.ne)), h.mp, h.mg, fun k hF => by simpa using h.old k hF, h.may⟩
theorem PTY.set3 (h : PTY w p g n c e en mk f F) (v : Int) : PTY (w.setCell ⟨p, 3, none⟩ (.int .i64 v)) p g n c e en v f F :=
  ⟨blk_set h.blk 3 _, h.row.block (Below.heap_setCell w ⟨p, 3, none⟩ _ g (Ne.symm h.ne)), h.mp, h.mg, fun k hF => by simpa using h.old k hF, h.may⟩
theorem PTY.put (h : PTY w p g n c e en mk f F) (j : Nat) (a b d : Value) : PTY (w.setCells g (j * 3) [a, b, d]) p g n c e en mk (updV (updV (updV f (j * 3) a) (j * 3 + 1) b) (j * 3 + 2) d) F := by
  refine ⟨(other_setCells h.ne _ _ _).trans h.blk, ((h.row.set_ (j * 3) a).set_ (j * 3 + 1) b).set_ (j * 3 + 2) d, h.mp, h.mg, fun k hF => ?_, h.may⟩
  have := h.old k hF
  have e := (below_setCells (b := g) (Nat.zero_le _) [a, b, d] (j * 3) w (Below.refl 0 w)).size
  omega
theorem PTY.there (h : PTY w p g n c e en mk f F) {j : Nat} (hj : j < n) : w.there g (j * 3) 3 := fun k hk => by
  refine ⟨?_, h.fz _⟩
  rw [h.cell (by omega)]
  rfl
theorem PTY.same (h : PTY w p g n c e en mk f F) {f' : Nat → Value} (hf : ∀ k, f' k = f k) : PTY w p g n c e en mk f' F :=
  ⟨h.blk, h.row.same fun k _ => hf k, h.mp, h.mg, h.old, h.may⟩
end
/-- .. as what it stands for. -/
def PTX (w : World) (p g c : Nat) (e : Int) (s : Tb) (F : Nat → Prop) : Prop := PTY w p g s.n c e (s.entries : Int) (s.marks : Int) (tcl s) F
def PT0 (w : World) (p : Nat) (s : Tb) (F : Nat → Prop) : Prop := ∃ g c e, PTX w p g c e s F
section
variable {w w' : World} {p g c : Nat} {e : Int} {s : Tb} {F : Nat → Prop}
theorem PTX.c0 (h : PTX w p g c e s F) {j : Nat} (hj : j < s.n) : w.cell? ⟨g, j * 3, none⟩ = some (.int .u8 (stc s j : Int)) := by
  rw [← tcl_0 s j]
  exact PTY.cell h (by omega)
theorem PTX.c1 (h : PTX w p g c e s F) {j : Nat} (hj : j < s.n) : w.cell? ⟨g, j * 3 + 1, none⟩ = some (.int .u64 (s.eh j : Int)) := by
  rw [← tcl_1 s j]
  exact PTY.cell h (by omega)
theorem PTX.c2 (h : PTX w p g c e s F) {j : Nat} (hj : j < s.n) : w.cell? ⟨g, j * 3 + 2, none⟩ = some (.int .u32 (s.ew j : Int)) := by
  rw [← tcl_2 s j]
  exact PTY.cell h (by omega)
theorem footPT0 : FootG PT0 :=
  ⟨fun h hk hd => by
    obtain ⟨g, c, e, h⟩ := h
    exact ⟨g, c, e, PTY.keep h hk hd⟩, fun h => by
    obtain ⟨g, c, e, h⟩ := h
    exact PTY.old h⟩
end
theorem put_entries (s : Tb) {k h x : Nat} (hk : k < s.n) (hf : s.ful k = false) : (s.put k h x).entries = s.entries + 1 := by
  have := cntI_upd s.ful k true hk
  rw [hf] at this
  show cntI (updB s.ful k true) s.n = cntI s.ful s.n + 1
  simpa using this
theorem put_marks0 (s : Tb) {k h x : Nat} (hk : k < s.n) (hf : s.mrk k = false) : (s.put k h x).marks = s.marks := by
  have := cntI_upd s.mrk k false hk
  rw [hf] at this
  show cntI (updB s.mrk k false) s.n = cntI s.mrk s.n
  simpa using this
theorem put_marks1 (s : Tb) {k h x : Nat} (hk : k < s.n) (hf : s.mrk k = true) : (s.put k h x).marks + 1 = s.marks := by
  have := cntI_upd s.mrk k false hk
  rw [hf] at this
  show cntI (updB s.mrk k false) s.n + 1 = cntI s.mrk s.n
  simpa using this
theorem gone_entries (s : Tb) {k : Nat} (hk : k < s.n) (hf : s.ful k = true) : (s.gone k).entries + 1 = s.entries := by
  have := cntI_upd s.ful k false hk
  rw [hf] at this
  show cntI (updB s.ful k false) s.n + 1 = cntI s.ful s.n
  simpa using this
theorem gone_marks (s : Tb) {k : Nat} (hk : k < s.n) (hf : s.mrk k = false) : (s.gone k).marks = s.marks + 1 := by
  have := cntI_upd s.mrk k true hk
  rw [hf] at this
  show cntI (updB s.mrk k true) s.n = cntI s.mrk s.n + 1
  simpa using this
end Go.Proofs.Ythbjkchgbjopfaa
