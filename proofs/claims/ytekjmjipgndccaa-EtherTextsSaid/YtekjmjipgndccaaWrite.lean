/- The program's ether.Write: the frame that has e ahead of a payload. -/
import Derived.Test.YtekjmjipgndccaaRWrite
namespace Go.Proofs.Ytekjmjipgndccaa
open Go.RowKit
set_option maxRecDepth 100000 in
set_option maxHeartbeats 400000 in
theorem write_long (es : Array Value) (A : Option Addr) (n c : Nat) (hn : 1646 < n) (hn' : n ≤ 140737488355328) (w : World) :
    Calls Try.prog 9 #[.agg es, .slice A n c] w fun e w' => e = .returned (.tuple #[.slice none 0 0, .int .i64 3]) ∧ Below w.heap.size w w' := by
  go_enter Try.func9, Try.ntmps9
  go_wp2
  go_ret2
  exact ⟨rfl, below_alloc w _⟩
theorem made_own0 (w : World) (base : Nat) (e : TypeId) (c : Nat) (hc : c ≤ 140737488355328) (hb : base ≤ w.heap.size) (f : Nat → Int) (g : Nat) (hg : g = w.heap.size) : Own (w.alloc (.cells (madeCells (Value.int .u8 0).cells c) e)) base e (some ⟨g, 0, none⟩) 0 c f := by
  subst hg
  exact ⟨by simp [nums], .inr ⟨w.heap.size, c, _, rfl, hb, heap_alloc_new w _, Nat.zero_le _, by unfold maxLen; omega, by simp [size_madeCells], by simp [nums]⟩⟩
theorem frm_cat (d s : Nat → Int) (t : Int) (f g : Nat → Int) (k : Nat) :
    frm d s t f k = cat 14 (cat 12 (cat 6 (cat 0 g d) s) (fun k => if k = 0 then t / 256 else t % 256)) f k := by
  unfold frm cat
  by_cases h6 : k < 6
  · rw [if_pos h6, if_pos (by omega), if_pos (by omega), if_pos h6, if_neg (by omega)]
    rfl
  · rw [if_neg h6]
    by_cases h12 : k < 12
    · rw [if_pos h12, if_pos (by omega), if_pos h12, if_neg h6]
    · rw [if_neg h12]
      by_cases e12 : k = 12
      · subst e12
        rfl
      · rw [if_neg e12]
        by_cases e13 : k = 13
        · subst e13
          rfl
        · rw [if_neg e13, if_neg (by omega)]
def WriteOwn (base et : Nat) (d s : Nat → Int) (t : Int) (f : Nat → Int) (n : Nat) (w : World) (e : Ending) (w' : World) : Prop :=
  ∃ A c, e = .returned (.tuple #[.slice A (14 + n) c, .int .i64 0]) ∧ Own w' base et A (14 + n) c (frm d s t f) ∧ Below base w w'
theorem eth_rd {W : World} {N B : Nat} {d s : Nat → Int} {t : Int} {T : TypeId} (h : W.heap[N]? = some (.cells (eth d s t) T (0, 0))) (hB : N < B) : Rd W B (some ⟨N, 0, none⟩) 6 d ∧ Rd W B (some ⟨N, 6, none⟩) 6 s :=
  ⟨.inr ⟨N, 0, rfl, hB, fun k hk => by rw [Nat.zero_add]; exact (blk_cell h k).trans (eth_get d s t k hk).1⟩, .inr ⟨N, 6, rfl, hB, fun k hk => (blk_cell h (6 + k)).trans (eth_get d s t k hk).2⟩⟩
set_option maxRecDepth 100000 in
set_option maxHeartbeats 1000000 in
theorem write_good (d s : Nat → Int) (t : Int) (ht : 0 ≤ t) (ht' : t ≤ 65535) (A : Option Addr) (n c : Nat) (f : Nat → Int) (hn : n ≤ 1646) (w : World) (hr : Rd w w.heap.size A n f) :
    Calls Try.prog 9 #[.agg (eth d s t), .slice A n c] w (WriteOwn w.heap.size 5 d s t f n w) := by
  obtain ⟨i0, hi0, hz0, hz1, hz2⟩ := info_parts Try.info5
  have hmk : ∀ W : World, (Instr.makeSlice 26 (.int .i64 0) (.int .i64 (14 + (n : Int)))).run Try.prog W = .ok (.slice (some ⟨W.heap.size, 0, none⟩) 0 (14 + n)) (W.alloc (.cells (madeCells (Value.int .u8 0).cells (14 + n)) 5)) := fun W => by
    have h := run_make (P := Try.prog) W 26 5 i0 (.int .u8 0) Try.underlying26 hi0 hz0 .i64 .i64 0 (14 + (n : Int)) (by omega) (by omega) (by rw [hz2]; omega) (by omega)
    have e : (14 + (n : Int)).toNat = 14 + n := by omega
    rw [e, hz1, Nat.mul_one] at h
    exact h
  have HI0 := Lib.hid hi0
  have HZ0 := Lib.hid hz0
  have HZ1 := Lib.hid hz1
  have HZ2 := Lib.hid hz2
  have HR := Lib.hid hr
  clear hi0 hz0 hz1 hz2 hr
  go_enter Try.func9, Try.ntmps9
  have e1 : (w.alloc (Obj.cells (eth d s t) 25)).heap.size = w.heap.size + 1 := by simp
  have HO0 : Hid (Own ((w.alloc (Obj.cells (eth d s t) 25)).alloc (Obj.cells (madeCells #[Value.int IntKind.u8 0] (14 + n)) 5)) (w.heap.size + 1) 5 (some ⟨w.heap.size + 1, 0, none⟩) 0 (14 + n) f) := made_own0 (w.alloc (Obj.cells (eth d s t) 25)) (w.heap.size + 1) 5 (14 + n) (by omega) (by omega) f _ e1.symm
  have HZ0' : Hid (((w.alloc (Obj.cells (eth d s t) 25)).alloc (Obj.cells (madeCells #[Value.int IntKind.u8 0] (14 + n)) 5)).heap[w.heap.size]? = some (.cells (eth d s t) 25 (0, 0))) := blk_old (heap_alloc_new w _) _
  have HB0 : Hid (Below w.heap.size w ((w.alloc (Obj.cells (eth d s t) 25)).alloc (Obj.cells (madeCells #[Value.int IntKind.u8 0] (14 + n)) 5))) := below_alloc2 w _ _
  have hs0 : w.heap.size + 1 ≤ ((w.alloc (Obj.cells (eth d s t) 25)).alloc (Obj.cells (madeCells #[Value.int IntKind.u8 0] (14 + n)) 5)).heap.size := by simp
  clear e1
  go_wp2_with (first
    | (at_builtin
       refine wpList_append_rd rfl (.tmp 14) (.tmp 16) _ rfl (w.heap.size + 1) 5 i0 Try.underlying26 HI0.out HZ0.out HZ1.out HZ2.out rfl (HO0.out) rfl (eth_rd HZ0'.out (Nat.lt_succ_self _)).1 (by omega) (hs0) ?_
       intro A1 c1 w1 hown1 hg1 _
       have HO1 : Hid (Own w1 (w.heap.size + 1) 5 A1 (6) c1 (cat 0 f d)) := hown1
       have HZ1' := Lib.hid ((hg1.block w.heap.size (by have := hs0; omega) (fun e => absurd ((HO0.out).at_ _ e.symm) (Nat.not_succ_le_self _))).trans (HZ0'.out))
       have HB1 : Hid (Below w.heap.size w w1) := (HB0.out).grown hg1 (HB0.out).size (fun k hk => Nat.le_of_succ_le ((HO0.out).at_ k hk))
       have hs1 : w.heap.size + 1 ≤ w1.heap.size := Nat.le_trans (hs0) hg1.size
       clear hown1 hg1)
    | (at_builtin
       refine wpList_append_rd rfl (.tmp 18) (.tmp 20) _ rfl (w.heap.size + 1) 5 i0 Try.underlying26 HI0.out HZ0.out HZ1.out HZ2.out rfl (HO1.out) rfl (eth_rd HZ1'.out (Nat.lt_succ_self _)).2 (by omega) (hs1) ?_
       intro A2 c2 w2 hown2 hg2 _
       have HO2 : Hid (Own w2 (w.heap.size + 1) 5 A2 (12) c2 (cat 6 (cat 0 f d) s)) := hown2
       have HZ2' := Lib.hid ((hg2.block w.heap.size (by have := hs1; omega) (fun e => absurd ((HO1.out).at_ _ e.symm) (Nat.not_succ_le_self _))).trans (HZ1'.out))
       have HB2 : Hid (Below w.heap.size w w2) := (HB1.out).grown hg2 (HB1.out).size (fun k hk => Nat.le_of_succ_le ((HO1.out).at_ k hk))
       have hs2 : w.heap.size + 1 ≤ w2.heap.size := Nat.le_trans (hs1) hg2.size
       clear hown2 hg2
       have hx : w2.cell? ⟨w.heap.size, 12, none⟩ = some (.int .u16 t) := blk_cell HZ2'.out 12)
    | (at_builtin
       refine wpList_append_rd rfl (.tmp 22) (.tmp 30) _ rfl (w.heap.size + 1) 5 i0 Try.underlying26 HI0.out HZ0.out HZ1.out HZ2.out rfl (HO2.out.alloc (.cells #[.int .u8 (t / 256), .int .u8 (t % 256)] 5)) rfl (rd_new2 w2 (w2.heap.size + 1) _ rfl (Nat.lt_succ_self _) (t / 256) (t % 256) 5) (by omega) (Nat.le_trans hs2 (alloc_le w2 _)) ?_
       intro A3 c3 w3 hown3 hg3 _
       have HO3 : Hid (Own w3 (w.heap.size + 1) 5 A3 (14) c3 (cat 12 (cat 6 (cat 0 f d) s) (fun k => if k = 0 then t / 256 else t % 256))) := hown3
       have HB3 : Hid (Below w.heap.size w w3) := (HB2.out.alloc HB2.out.size (.cells #[.int .u8 (t / 256), .int .u8 (t % 256)] 5)).grown hg3 (HB2.out.alloc HB2.out.size (.cells #[.int .u8 (t / 256), .int .u8 (t % 256)] 5)).size (fun k hk => Nat.le_of_succ_le ((HO2.out.alloc (.cells #[.int .u8 (t / 256), .int .u8 (t % 256)] 5)).at_ k hk))
       have hs3 : w.heap.size + 1 ≤ w3.heap.size := Nat.le_trans (Nat.le_trans hs2 (alloc_le w2 _)) hg3.size
       clear hown3 hg3)
    | (at_builtin
       refine wpList_append_rd rfl (.tmp 32) (.tmp 33) _ rfl (w.heap.size + 1) 5 i0 Try.underlying26 HI0.out HZ0.out HZ1.out HZ2.out rfl (HO3.out) rfl (HR.out.keep HB3.out) (by omega) (hs3) ?_
       intro A4 c4 w4 hown4 hg4 _
       have HO4 : Hid (Own w4 (w.heap.size + 1) 5 A4 (14 + n) c4 (cat 14 (cat 12 (cat 6 (cat 0 f d) s) (fun k => if k = 0 then t / 256 else t % 256)) f)) := hown4
       have HB4 : Hid (Below w.heap.size w w4) := (HB3.out).grown hg4 (HB3.out).size (fun k hk => Nat.le_of_succ_le ((HO3.out).at_ k hk))
       have hs4 : w.heap.size + 1 ≤ w4.heap.size := Nat.le_trans (hs3) hg4.size
       clear hown4 hg4))
  go_ret2
  exact ⟨A4, c4, rfl, (HO4.out.le (Nat.le_succ _)).same fun k _ => frm_cat d s t f f k, HB4.out⟩
end Go.Proofs.Ytekjmjipgndccaa
