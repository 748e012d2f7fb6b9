/- Stage 13: the law's asks. -/
import Derived.Test.YthbjkchgbjopfaaTn
namespace Go.Proofs.Ythbjkchgbjopfaa
set_option maxRecDepth 100000
open Go.RowKit Go.Shelf
def kvW (x : Nat) : Value := .int .u32 (x : Int)
/-- Each number that was asked, once. -/
def onceL (l : List Nat) : List (Nat × Value) := l.map fun x => (x, .int .i64 1)
theorem onceL_no {x : Nat} : ∀ {l : List Nat}, ¬ x ∈ l → afind x (onceL l) = none
  | [], _ => rfl
  | y :: r, h => by
    show (if x = y then some _ else afind x (onceL r)) = none
    rw [if_neg (fun e => h (by rw [e]; exact .head _))]
    exact onceL_no fun q => h (.tail _ q)
theorem onceL_put {x : Nat} {l : List Nat} (h : ¬ x ∈ l) : aput x (.int .i64 1) (onceL l) = onceL (l ++ [x]) := by
  rw [aput_miss (onceL_no h)]
  unfold onceL
  rw [List.map_append]
  rfl
theorem onceL_yes {x : Nat} {l : List Nat} (h : ¬ x ∈ l) : afind x (onceL (l ++ [x])) = some (.int .i64 1) := by
  rw [← onceL_put h, afind_put, if_pos rfl]
theorem keyW : KeyT Try.prog 32 kvW := keyT_int Try.underlying32 (fun x : Nat => (x : Int)) fun _ _ h => by omega
theorem zeroI (w : World) : (zeroValue 3).run Try.prog w = .ok (.int .i64 0) w := by kernel_rfl
/-- What is known as asks asks: at bs the map (at bm) of what was seen, at bo that all is well, at bx the number. -/
def AskJ (bs bm bo bx y : Nat) (l : List Nat) (W : World) : Prop :=
  W.heap[bs]? = some (.cells #[.map (some bm)] 82 (0, 0)) ∧ AMap W bm kvW (onceL l) ∧ W.heap[bo]? = some (.cells #[.bool true] 4 (0, 0)) ∧ W.heap[bx]? = some (.cells #[.int .u8 (y : Int)] 5 (0, 0))
set_option maxHeartbeats 2000000 in
theorem asks_asks (bs bm bo bx y b0 : Nat) (T : List Nat) (hy : y < 256) (hT : T.Nodup) (hT2 : ∀ w, w ∈ T → w < 256 ∧ w % 5 = y % 5) (h1 : bs < b0) (h2 : bm < b0) (h3 : bo < b0) (h4 : bx < b0) (n1 : bs ≠ bo) (n2 : bx ≠ bo) (n3 : bm ≠ bo) :
    AsksG 40 #[.pointer (some ⟨bs, 0, none⟩), .pointer (some ⟨bo, 0, none⟩), .pointer (some ⟨bx, 0, none⟩)] (fun z => z == y) (fun k => k = bm ∨ k = bo) b0 T (AskJ bs bm bo bx y) := by
  refine ⟨fun _ _ => rfl, fun l W W' ⟨q1, q2, q3, q4⟩ hk => ?_, fun l x W ⟨q1, q2, q3, q4⟩ hx hpre _ => ?_⟩
  · exact ⟨(hk.block bs (lt_heap q1) (by omega)).trans q1, q2.block (hk.block bm q2.lt (by omega)), (hk.block bo (lt_heap q3) (by omega)).trans q3, (hk.block bx (lt_heap q4) (by omega)).trans q4⟩
  · have hxT : x ∈ T := hpre.subset (by simp)
    obtain ⟨hx1, hx5⟩ := hT2 x hxT
    have hno : ¬ x ∈ l := fun hm => by
      obtain ⟨t, ht⟩ := hpre
      rw [← ht] at hT
      have h5 := (List.nodup_append.1 hT).1
      have h6 := (List.nodup_append.1 h5).2.2 x hm x (by simp)
      exact h6 rfl
    have hlook := q2.look (P := Try.prog) Try.underlying82 keyW zeroI x false
    rw [onceL_no hno] at hlook
    have hlook : (Instr.lookup 82 (.map (some bm)) (.int .u32 (x : Int)) false).run Try.prog W = .ok (.int .i64 0) W := hlook
    obtain ⟨w2, hput, hm2, hg2⟩ := q2.put (P := Try.prog) Try.underlying82 keyW x (.int .i64 1)
    rw [onceL_put hno] at hm2
    have hput : (Instr.mapUpdate 82 (.map (some bm)) (.int .u32 (x : Int)) (.int .i64 1)).run Try.prog W = .ok () w2 := hput
    have hbs : bs ≠ bm := fun e => by
      obtain ⟨es, cl, q, _⟩ := q2
      rw [← e, q1] at q
      cases q
    have hbx : bx ≠ bm := fun e => by
      obtain ⟨es, cl, q, _⟩ := q2
      rw [← e, q4] at q
      cases q
    have hK2 : Kept (fun k => k = bm ∨ k = bo) W w2 := ⟨hg2.os, hg2.tape, hg2.output, hg2.size, fun k hk hn => hg2.block k hk fun e => hn (.inl (by injection e))⟩
    have r1 : w2.heap[bs]? = some (.cells #[.map (some bm)] 82 (0, 0)) := (hg2.block bs (lt_heap q1) fun e => hbs (by injection e)).trans q1
    have r3 : w2.heap[bo]? = some (.cells #[.bool true] 4 (0, 0)) := (hg2.block bo (lt_heap q3) fun e => n3 (by injection e with e; exact e.symm)).trans q3
    have r4 : w2.heap[bx]? = some (.cells #[.int .u8 (y : Int)] 5 (0, 0)) := (hg2.block bx (lt_heap q4) fun e => hbx (by injection e)).trans q4
    have hlook2 := hm2.look (P := Try.prog) Try.underlying82 keyW zeroI x false
    rw [onceL_yes hno] at hlook2
    have hlook2 : (Instr.lookup 82 (.map (some bm)) (.int .u32 (x : Int)) false).run Try.prog w2 = .ok (.int .i64 1) w2 := hlook2
    have c1 : W.cell? ⟨bs, 0, none⟩ = some (.map (some bm)) := blk_cell q1 0
    have d1 : w2.cell? ⟨bs, 0, none⟩ = some (.map (some bm)) := blk_cell r1 0
    have d3 : w2.cell? ⟨bo, 0, none⟩ = some (.bool true) := blk_cell r3 0
    have f3 := blk_free r3 0
    have d4 : w2.cell? ⟨bx, 0, none⟩ = some (.int .u8 (y : Int)) := blk_cell r4 0
    have r41 : (w2.setCell ⟨bo, 0, none⟩ (.bool true)).heap[bx]? = some (.cells #[.int .u8 (y : Int)] 5 (0, 0)) := (Below.heap_setCell w2 ⟨bo, 0, none⟩ _ bx n2).trans r4
    have d41 : (w2.setCell ⟨bo, 0, none⟩ (.bool true)).cell? ⟨bx, 0, none⟩ = some (.int .u8 (y : Int)) := blk_cell r41 0
    have HJ : Hid (AskJ bs bm bo bx y (l ++ [x]) (w2.setCell ⟨bo, 0, none⟩ (.bool true))) := Lib.hid ⟨(Below.heap_setCell w2 ⟨bo, 0, none⟩ _ bs n1).trans r1, hm2.block (Below.heap_setCell w2 ⟨bo, 0, none⟩ _ bm n3), blk_set r3 0 _, r41⟩
    have HK : Hid (Kept (fun k => k = bm ∨ k = bo) W (w2.setCell ⟨bo, 0, none⟩ (.bool true))) := Lib.hid (hK2.setCell (p := ⟨bo, 0, none⟩) (.inl (.inr rfl)) _)
    have z1 : (x : Int) % 256 = (x : Int) := by omega
    have z2 : (x : Int) % 5 = (y : Int) % 5 := by omega
    have z3 : IntKind.u32.wrap ((y : Int) % 5) = (y : Int) % 5 := by rw [IntKind.wrap_u32]; omega
    have z4 : IntKind.u32.wrap (y : Int) = (y : Int) := by rw [IntKind.wrap_u32]; omega
    have z5 : IntKind.i64.wrap (0 + 1) = 1 := by decide
    obtain ⟨a, ha⟩ : ∃ a, a = (x == y) := ⟨_, rfl⟩
    have HA : Hid (((x : Int) == (y : Int)) = a) := Lib.hid (by
      rw [ha]
      rw [Bool.eq_iff_iff, beq_iff_eq, beq_iff_eq]
      omega)
    clear q1 q2 q3 q4 r1 r3 r4 r41 hm2 hg2 hK2 hno hpre hT hT2 hxT
    show Calls Try.prog 40 #[.int .u32 (x : Int), .pointer (some ⟨bs, 0, none⟩), .pointer (some ⟨bo, 0, none⟩), .pointer (some ⟨bx, 0, none⟩)] W fun e W' => e = .returned (.bool (x == y)) ∧ _
    rw [← ha]
    clear ha
    cases a with
    | true =>
      have ea := HA.out
      go_enter Try.func40, Try.ntmps40
      go_wp2_with fail
      go_ret
      exact ⟨rfl, HJ.out, HK.out⟩
    | false =>
      have ea := HA.out
      go_enter Try.func40, Try.ntmps40
      go_wp2_with fail
      go_ret
      exact ⟨rfl, HJ.out, HK.out⟩
section
variable {PT : World → Nat → Tb → (Nat → Prop) → Prop} {g : Nat}
set_option maxHeartbeats 2000000 in
theorem asks_any (HP : TabP PT g) {w : World} {p : Nat} {s : Tb} {F : Nat → Prop} {M : List (Nat × Bool)} (h : PT w p s F) (hF : Tb.Fi s M) (y : Nat) (hy : y < 256) : Calls Try.prog 21 #[.pointer (some ⟨p, 0, none⟩), .int .u8 (y : Int), .bool (mlook y M)] w (ret (.bool true) w) := by
  obtain ⟨hT, hT2⟩ := hF.asks y
  have hMem : Mem w ((((w.alloc (.cells #[.int .u8 (y : Int)] 5)).alloc (.map #[] 0)).alloc (.cells #[.map (some (w.heap.size + 1))] 82)).alloc (.cells #[.bool true] 4)) [(w.heap.size, .cells #[.int .u8 (y : Int)] 5 (0, 0)), (w.heap.size + 1, .map #[] 0), (w.heap.size + 2, .cells #[.map (some (w.heap.size + 1))] 82 (0, 0)), (w.heap.size + 3, .cells #[.bool true] 4 (0, 0))] := by
    have h := ((((Mem.nil w).alloc (.cells #[.int .u8 (y : Int)] 5)).alloc (.map #[] 0)).alloc (.cells #[.map (some (w.heap.size + 1))] 82)).alloc (.cells #[.bool true] 4)
    simpa using h
  have HV : Hid (s.fnV (y % 5) (fun z => z == y) = #[.int .i64 (((s.find (y % 5) y).getD 0 : Nat) : Int), .bool (mlook y M)]) := Lib.hid (by
    rw [Tb.fnV_find]
    unfold Tb.fdV
    cases hm : mlook y M with
    | true =>
      obtain ⟨k, hk, _⟩ := hF.find_yes hm
      rw [hk]
      rfl
    | false =>
      rw [hF.find_no hm]
      rfl)
  obtain ⟨W4, hW4⟩ : ∃ W4, W4 = (((w.alloc (.cells #[.int .u8 (y : Int)] 5)).alloc (.map #[] 0)).alloc (.cells #[.map (some (w.heap.size + 1))] 82)).alloc (.cells #[.bool true] 4) := ⟨_, rfl⟩
  rw [← hW4] at hMem
  have hJ : AskJ (w.heap.size + 2) (w.heap.size + 1) (w.heap.size + 3) w.heap.size y [] W4 := ⟨hMem.get 2 rfl, ⟨#[], 0, hMem.get 1 rfl, rfl⟩, hMem.get 3 rfl, hMem.get 0 rfl⟩
  have hsz := lt_heap (hMem.get 3 rfl)
  have hb4 := hMem.below
  have HFD := Lib.hid (HP.find (R := fun k => k = w.heap.size + 1 ∨ k = w.heap.size + 3) (HP.foot.keep h (Kept.of_below hb4 fun _ => False) fun _ _ q => q) hF.ok (y % 5) (by omega) 40 #[.pointer (some ⟨w.heap.size + 2, 0, none⟩), .pointer (some ⟨w.heap.size + 3, 0, none⟩), .pointer (some ⟨w.heap.size, 0, none⟩)] (fun z => z == y) _
    (asks_asks (w.heap.size + 2) (w.heap.size + 1) (w.heap.size + 3) w.heap.size y W4.heap.size _ hy hT hT2 (by omega) (by omega) (by omega) (by omega) (by omega) (by omega) (by omega)) (fun k hk => ⟨by omega, fun f => by have := HP.foot.old h k f; omega⟩) hJ)
  rw [HV.out] at HFD
  have HB4 := Lib.hid hb4
  have HM := Lib.hid hMem
  obtain ⟨kk, hkk⟩ : ∃ k, k = (s.find (y % 5) y).getD 0 := ⟨_, rfl⟩
  rw [← hkk] at HFD
  obtain ⟨there, hth⟩ : ∃ t, t = mlook y M := ⟨_, rfl⟩
  rw [← hth] at HFD ⊢
  have hee : (there == there) = true := by simp
  have z5 : IntKind.u64.wrap ((y : Int) % 5) = ((y % 5 : Nat) : Int) := by rw [IntKind.wrap_u64]; omega
  have hlt1 : w.heap.size + 1 < W4.heap.size := by omega
  clear hMem hJ hb4 hkk hth h hF hT hT2 HV hsz HP
  go_enter Try.func21, Try.ntmps21
  have hmm := @run_makeMap Try.prog
  go_upto_region 3 with fail
  change Code.wp _ _ _ _ ((((w.alloc (.cells #[.int .u8 (y : Int)] 5)).alloc (.map #[] 0)).alloc (.cells #[.map (some (w.heap.size + 1))] 82)).alloc (.cells #[.bool true] 4))
  rw [← hW4]
  have c4 : W4.cell? ⟨w.heap.size, 0, none⟩ = some (.int .u8 (y : Int)) := blk_cell (HM.out.get 0 rfl) 0
  clear hW4 hmm
  obtain ⟨b3, hb3⟩ : ∃ b, b = w.heap.size + 3 := ⟨_, rfl⟩
  obtain ⟨b2, hb2⟩ : ∃ b, b = w.heap.size + 2 := ⟨_, rfl⟩
  obtain ⟨b0, hb0⟩ : ∃ b, b = w.heap.size := ⟨_, rfl⟩
  rw [← hb3, ← hb2, ← hb0] at HFD
  rw [← hb0] at c4
  rw [← hb3, ← hb2, ← hb0]
  have HBB := Lib.hid (And.intro hb0 (And.intro hb2 hb3))
  clear hb0 hb2 hb3
  go_upto_region 4 with (first
    | (go_at_call 27
       refine HFD.out.mono ?_
       rintro e u5 ⟨rfl, ⟨_, _, hj, _⟩, hk⟩
       have HB5 : Hid (Below w.heap.size w u5) := Lib.hid (HB4.out.trans (hk.below HB4.out.size fun k e => by have := HBB.out; omega))
       have HO5 := Lib.hid hj
       clear hj hk c4))
  have c3 : u5.cell? ⟨b3, 0, none⟩ = some (.bool true) := blk_cell HO5.out 0
  go_wp2_with fail
  go_ret
  exact ⟨rfl, HB5.out⟩
end
end Go.Proofs.Ythbjkchgbjopfaa
