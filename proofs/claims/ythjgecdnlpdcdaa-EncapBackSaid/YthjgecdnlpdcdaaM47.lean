import Derived.Test.YthjgecdnlpdcdaaM46
/- Layer 8, the program: Unwrap. -/
namespace Go.Proofs.Ythjgecdnlpdcdaa
set_option maxRecDepth 100000
open Go.RowKit
/-- What Unwrap tells. -/
def UnO (v : Bool) (g : Nat → Int) (m : Nat) (w : World) (e : Ending) (w' : World) : Prop :=
  (unE v g m ≠ 0 ∧ e = .returned (.tuple #[.agg outz, .slice none 0 0, .int .i64 (unE v g m)]) ∧ Below w.heap.size w w') ∨
  (unE v g m = 0 ∧ ∃ I ic, e = .returned (.tuple #[.agg (outc v (unM v g) (otS v g) (otD v g) (unP v g)), .slice I (unN v g) ic, .int .i64 0]) ∧ unN v g ≤ ic ∧ ic ≤ 9223372036854775807 ∧ RdF w' w.heap.size I (unN v g) (unF v g) ∧ Below w.heap.size w w')
theorem wpList_zo {ops : Array Oper} {rest : List Oper} {op : Oper} {a : Act} {w : World} {Q : Exit → Act → World → Prop} (hw : Region.wanted op (yielded ops a.tmps) = true) (ho : op.op = .build 25 #[])
    (h : wpList Try.prog ops Q rest (a.put op.dst (.agg outz)) w) : wpList Try.prog ops Q (op :: rest) a w := by
  have hb : (Instr.build 25 #[]).run Try.prog w = .ok (.agg outz) w := by kernel_rfl
  refine BigFrame.wpList_want hw fun K hK => ?_
  unfold Oper.wp execOp
  simp only [ho, List.map_toArray, List.map_nil, Sem.run_bind, Sem.run_pure, Result.andThen_ok, hb]
  exact hK _ _ h
theorem wpList_ou {ops : Array Oper} {rest : List Oper} {op : Oper} {a : Act} {w : World} {Q : Exit → Act → World → Prop} (hw : Region.wanted op (yielded ops a.tmps) = true) (x0 x2 x3 : Operand) (ho : op.op = .build 25 #[(0, x0), (1, .const (.int .u8 1)), (2, x2), (3, x3)])
    (v : Bool) (s d : Nat → Int) (h0 : a.eval x0 = .bool v) (h2 : a.eval x2 = .agg (arr16 s)) (h3 : a.eval x3 = .agg (arr16 d))
    (h : wpList Try.prog ops Q rest (a.put op.dst (.agg (outc v 1 s d 0))) w) : wpList Try.prog ops Q (op :: rest) a w := by
  have hb : (Instr.build 25 #[(0, .bool v), (1, .int .u8 1), (2, .agg (arr16 s)), (3, .agg (arr16 d))]).run Try.prog w = .ok (.agg (outc v 1 s d 0)) w := by kernel_rfl
  refine BigFrame.wpList_want hw fun K hK => ?_
  unfold Oper.wp execOp
  simp only [ho, List.map_toArray, List.map_cons, List.map_nil, Act.eval_const, h0, h2, h3, Sem.run_bind, Sem.run_pure, Result.andThen_ok, hb]
  exact hK _ _ h
theorem oS_byt (v : Bool) {g : Nat → Int} (hg : Byt g) : Byt (otS v g) := fun k => by
  have a := hg (8 + k)
  have b := hg (12 + k)
  unfold otS
  cases v
  · rw [if_neg (show ¬ (false = true) by decide)]; unfold adr; split <;> omega
  · rw [if_pos rfl]; unfold fst16; split <;> omega
theorem oD_byt (v : Bool) {g : Nat → Int} (hg : Byt g) : Byt (otD v g) := fun k => by
  have a := hg (24 + k)
  have b := hg (16 + k)
  unfold otD
  cases v
  · rw [if_neg (show ¬ (false = true) by decide)]; unfold adr; split <;> omega
  · rw [if_pos rfl]; unfold fst16; split <;> omega
set_option maxHeartbeats 4000000 in
theorem unw_any (v : Bool) (A : Option Addr) (n c : Nat) (f : Nat → Int) (hf : Byt f) (hn : n ≤ 140737488355328) (hcap : n ≤ c) (hc' : c ≤ 9223372036854775807) (w : World) (hr : Rd w w.heap.size A n f) :
    Calls Try.prog 6 #[.bool v, .slice A n c] w (UnO v f n w) := by
  have HR := Lib.hid hr
  have HOP := Lib.hid fun W hr => open_any v A n c f hf hn hcap hc' W hr
  have HGU : Hid (otE v f n = 0 → ∀ I ic W, otR v f ≤ ic → ic ≤ 9223372036854775807 → Rd W W.heap.size I (otR v f) (otF v f) → Calls Try.prog 12 #[.agg (outs (otS v f) (otD v f) (otP v f) (.slice I (otR v f) ic)), .bool v] W (GuO v (otS v f) (otD v f) (otF v f) (otR v f) W)) := Lib.hid fun h I ic W h1 h2 hr =>
    ugue_any v (otS v f) (otD v f) (oS_byt v hf) (oD_byt v hf) (otP v f) I (otR v f) ic (otF v f) (fun k => hf _) (by have := ot_ok hf h; omega) h1 h2 W hr
  have HKI : Hid (∀ I ic W, Rd W W.heap.size I (otR v f) (otF v f) → Calls Try.prog 7 #[.slice I (otR v f) ic] W fun e w' => e = .returned (.int .u8 (knd (otF v f) (otR v f))) ∧ W = w') := Lib.hid fun I ic W hr => kind_any I _ ic _ (fun k => hf _) W hr
  have HKG : Hid (∀ J jc W, Rd W W.heap.size J (otR v f - 12) (fun k => otF v f (12 + k)) → Calls Try.prog 7 #[.slice J (otR v f - 12) jc] W fun e w' => e = .returned (.int .u8 (knd (fun k => otF v f (12 + k)) (otR v f - 12))) ∧ W = w') := Lib.hid fun I ic W hr => kind_any I _ ic _ (fun k => hf _) W hr
  unfold OpO at HOP
  unfold GuO at HGU
  unfold UnO
  obtain ⟨UM, hUM⟩ : ∃ x, x = unM v f := ⟨_, rfl⟩
  obtain ⟨UP, hUP⟩ : ∃ x, x = unP v f := ⟨_, rfl⟩
  obtain ⟨UN, hUN⟩ : ∃ x, x = unN v f := ⟨_, rfl⟩
  obtain ⟨UF, hUF⟩ : ∃ x, x = unF v f := ⟨_, rfl⟩
  obtain ⟨E, hE⟩ : ∃ x, x = unE v f n := ⟨_, rfl⟩
  have HU17 : Hid (otP v f = 17 → UM = 2 ∧ UP = w2 (otF v f) 0 ∧ UN = otR v f - 12 ∧ ∀ k, UF k = otF v f (12 + k)) := Lib.hid fun h => ⟨by rw [hUM]; unfold unM; rw [if_pos h], by rw [hUP]; unfold unP; rw [if_pos h], by rw [hUN]; unfold unN; rw [if_pos h], fun k => by rw [hUF]; unfold unF; rw [if_pos h]⟩
  have HUNO : Hid (otP v f ≠ 17 → UM = 1 ∧ UP = 0 ∧ UN = otR v f ∧ ∀ k, UF k = otF v f k) := Lib.hid fun h => ⟨by rw [hUM]; unfold unM; rw [if_neg h], by rw [hUP]; unfold unP; rw [if_neg h], by rw [hUN]; unfold unN; rw [if_neg h], fun k => by rw [hUF]; unfold unF; rw [if_neg h]⟩
  have HEE : Hid (E = if otE v f n ≠ 0 then otE v f n
    else if otP v f = 4 ∨ otP v f = 41 then (if knd (otF v f) (otR v f) ≠ otP v f then 5 else 0)
    else if otP v f = 17 then
      (if guE v (otS v f) (otD v f) (otF v f) (otR v f) ≠ 0 then guE v (otS v f) (otD v f) (otF v f) (otR v f) else if knd (fun k => otF v f (12 + k)) (otR v f - 12) ≠ otF v f 9 then 5 else 0)
    else 10) := Lib.hid hE
  rw [← hUM, ← hUP, ← hUN, ← hUF, ← hE]
  clear hUM hUP hUN hUF hE hr hf
  obtain ⟨E0, hE0⟩ : ∃ x, x = otE v f n := ⟨_, rfl⟩
  obtain ⟨S, hS⟩ : ∃ x, x = otS v f := ⟨_, rfl⟩
  obtain ⟨D, hD⟩ : ∃ x, x = otD v f := ⟨_, rfl⟩
  obtain ⟨P, hP⟩ : ∃ x, x = otP v f := ⟨_, rfl⟩
  obtain ⟨R, hRR⟩ : ∃ x, x = otR v f := ⟨_, rfl⟩
  obtain ⟨G, hG⟩ : ∃ x, x = otF v f := ⟨_, rfl⟩
  rw [← hS, ← hD]
  rw [← hE0, ← hS, ← hD, ← hP, ← hRR, ← hG] at HOP HGU HEE
  rw [← hRR, ← hG] at HKI HKG
  rw [← hP, ← hRR, ← hG] at HU17 HUNO
  clear hE0 hS hD hP hRR hG
  obtain ⟨E7, hE7⟩ : ∃ x, x = guE v S D G R := ⟨_, rfl⟩
  obtain ⟨K1, hK1⟩ : ∃ x, x = knd G R := ⟨_, rfl⟩
  obtain ⟨K2, hK2⟩ : ∃ x, x = knd (fun k => G (12 + k)) (R - 12) := ⟨_, rfl⟩
  obtain ⟨P0, hP0⟩ : ∃ x, x = w2 G 0 := ⟨_, rfl⟩
  obtain ⟨Y9, hY9⟩ : ∃ x, x = G 9 := ⟨_, rfl⟩
  rw [← hE7, ← hP0, ← hY9] at HGU
  rw [← hE7, ← hK1, ← hK2, ← hY9] at HEE
  rw [← hK1] at HKI
  rw [← hK2] at HKG
  rw [← hP0] at HU17
  clear hE7 hK1 hK2 hP0 hY9
  have HM1 : Hid (Mem w (w.alloc (.cells outz 25)) [(w.heap.size, .cells outz 25 (0, 0))]) := Lib.hid ((Mem.nil w).alloc (.cells outz 25))
  go_enter Try.func6, Try.ntmps6
  go_upto_region 1 with fail
  change Code.wp _ _ _ _ (w.alloc (.cells outz 25))
  generalize w.alloc (.cells outz 25) = u1 at *
  go_wp2_with fail
  go_at_call 11
  refine (HOP.out u1 (HM1.out.rd HR.out)).mono ?_
  rintro e u2 (⟨hE, rfl, hb⟩ | ⟨hE, I, ic, rfl, ho, hb⟩)
  · have hne' : (E0 != 0) = true := by simpa using hE
    have HXE : Hid (E = E0) := Lib.hid (HEE.out.trans (by rw [if_pos hE]))
    have HM2 := Lib.hid (HM1.out.step hb)
    clear hb HM1 HOP HGU HKI HKG HEE HU17 HUNO
    have HN : Hid ((u2.alloc (.cells outsz 44)).heap[u2.heap.size]? = some (.cells outsz 44 (0, 0))) := heap_alloc_new u2 _
    go_upto_if 19 with (first
      | (refine wpList_store_row rfl 44 (.tmp 7) (.tmp 16) rfl u2.heap.size outsz rfl rfl 44 outsz HN.out (by kernel_rfl) rfl (outsz_one) ?_))
    change Code.wp _ _ _ _ ((u2.alloc (.cells outsz 44)).setRow u2.heap.size outsz)
    obtain ⟨q7, hq⟩ : ∃ q7, q7 = u2.heap.size := ⟨_, rfl⟩
    have HM3 : Hid (Mem w ((u2.alloc (.cells outsz 44)).setRow q7 outsz) [(w.heap.size, .cells outz 25 (0, 0)), (q7, .cells outsz 44 (0, 0))]) := Lib.hid (HM2.out.newrow outsz outsz 44 q7 hq)
    rw [← hq]
    clear hq HN HM2
    generalize (u2.alloc (.cells outsz 44)).setRow q7 outsz = u3 at *
    go_wp2_with (first
      | (refine wpList_zo rfl rfl ?_)
      | (refine wpList_store_row rfl 25 (.tmp 4) (.tmp 20) rfl w.heap.size outz rfl rfl 25 outz (HM3.out.get 0 rfl) (by kernel_rfl) rfl outz_one ?_))
    refine bodyPost_ret (v := .tuple #[.agg outz, .slice none 0 0, .int .i64 E0]) (results_row2 Try.results6 _ _ w.heap.size 25 outz (0, 0) _ rfl (setRow_heap _ w.heap.size _ outz _ _ (HM3.out.get 0 rfl)) Try.underlying25 rfl (by kernel_rfl)) rfl ?_
    exact .inl ⟨by rw [HXE.out]; exact hE, by rw [HXE.out] <;> rfl, below_setRow HM3.out.below (Nat.le_refl _) _⟩
  · subst hE
    have HE1 : Hid (E = if P = 4 ∨ P = 41 then (if K1 ≠ P then 5 else 0) else if P = 17 then (if E7 ≠ 0 then E7 else if K2 ≠ Y9 then 5 else 0) else 10) := Lib.hid (HEE.out.trans (by rw [if_neg (fun q => q rfl)]))
    have HM2 := Lib.hid (HM1.out.step hb)
    have HO2 := Lib.hid (ho.le HM1.out.below.size)
    have HGU2 := Lib.hid (HGU.out rfl)
    clear hb ho HM1 HOP HEE HGU
    have HN : Hid ((u2.alloc (.cells outsz 44)).heap[u2.heap.size]? = some (.cells outsz 44 (0, 0))) := heap_alloc_new u2 _
    go_upto_region 4 with (first
      | (refine wpList_store_row rfl 44 (.tmp 7) (.tmp 16) rfl u2.heap.size (outs S D P (.slice I R ic)) rfl rfl 44 outsz HN.out (by kernel_rfl) rfl (outs_one ..) ?_))
    change Code.wp _ _ _ _ ((u2.alloc (.cells outsz 44)).setRow u2.heap.size (outs S D P (.slice I R ic)))
    obtain ⟨q7, hq⟩ : ∃ q7, q7 = u2.heap.size := ⟨_, rfl⟩
    have HM3 : Hid (Mem w ((u2.alloc (.cells outsz 44)).setRow q7 (outs S D P (.slice I R ic))) [(w.heap.size, .cells outz 25 (0, 0)), (q7, .cells (outs S D P (.slice I R ic)) 44 (0, 0))]) := Lib.hid (HM2.out.newrow outsz (outs S D P (.slice I R ic)) 44 q7 hq)
    have HO3 : Hid (Own ((u2.alloc (.cells outsz 44)).setRow q7 (outs S D P (.slice I R ic))) w.heap.size 5 I R ic G) := Lib.hid (HO2.out.below (by rw [hq]; exact below_setRow (below_alloc u2 _) (Nat.le_refl _) _))
    rw [← hq]
    clear hq HN HM2 HO2
    generalize (u2.alloc (.cells outsz 44)).setRow q7 (outs S D P (.slice I R ic)) = u3 at *
    have HN : Hid ((u3.alloc (.cells outz 25)).heap[u3.heap.size]? = some (.cells outz 25 (0, 0))) := heap_alloc_new u3 _
    go_upto_region 5 with (first
      | (refine wpList_load_mid rfl 22 (.tmp 23) rfl q7 0 rfl (arr16 S).toList _ (blk_range (HM3.out.get 1 rfl) (fun k hk => outs_srcs k hk)) Try.underlying22 rfl (by kernel_rfl) ?_)
      | (refine wpList_load_mid rfl 22 (.tmp 25) rfl q7 16 rfl (arr16 D).toList _ (blk_range (HM3.out.get 1 rfl) (fun k hk => outs_dsts k hk)) Try.underlying22 rfl (by kernel_rfl) ?_)
      | (refine wpList_ou rfl (.tmp 22) (.tmp 24) (.tmp 26) rfl v S D rfl rfl rfl ?_)
      | (refine wpList_store_row rfl 25 (.tmp 9) (.tmp 27) rfl u3.heap.size (outc v 1 S D 0) rfl rfl 25 outz HN.out (by kernel_rfl) rfl (out_one ..) ?_))
    change Code.wp _ _ _ _ ((u3.alloc (.cells outz 25)).setRow u3.heap.size (outc v 1 S D 0))
    obtain ⟨q9, hq⟩ : ∃ q9, q9 = u3.heap.size := ⟨_, rfl⟩
    have HM4 : Hid (Mem w ((u3.alloc (.cells outz 25)).setRow q9 (outc v 1 S D 0)) [(w.heap.size, .cells outz 25 (0, 0)), (q7, .cells (outs S D P (.slice I R ic)) 44 (0, 0)), (q9, .cells (outc v 1 S D 0) 25 (0, 0))]) := Lib.hid (HM3.out.newrow outz (outc v 1 S D 0) 25 q9 hq)
    have HO4 : Hid (Own ((u3.alloc (.cells outz 25)).setRow q9 (outc v 1 S D 0)) w.heap.size 5 I R ic G) := Lib.hid (HO3.out.below (by rw [hq]; exact below_setRow (below_alloc u3 _) (Nat.le_refl _) _))
    rw [← hq]
    clear hq HN HM3 HO3
    generalize (u3.alloc (.cells outz 25)).setRow q9 (outc v 1 S D 0) = u4 at *
    have y32 : ∀ W : Stay u4, W.w.cell? ⟨q7, 32, none⟩ = some (.int .u8 P) := fun W => Stay.cell (blk_cell (HM4.out.get 1 rfl) 32) W
    have y33 : ∀ W : Stay u4, W.w.cell? ⟨q7, 33, none⟩ = some (.slice I R ic) := fun W => Stay.cell (blk_cell (HM4.out.get 1 rfl) 33) W
    simp only [Act.put]
    refine wp_region_stay (by kernel_rfl) (by kernel_rfl) ?_
    repeat (go_big_quiet_step (fail))
    refine wpQuiet_nil ?_
    intro w' hw'
    obtain ⟨W, rfl⟩ := hw'
    have HM5 := Lib.hid (HM4.out.step W.below)
    have HO5 := Lib.hid (HO4.out.below W.below)
    clear y32 y33 HM4 HO4
    generalize W.w = u5 at *
    have x32 : u5.cell? ⟨q7, 32, none⟩ = some (.int .u8 P) := blk_cell (HM5.out.get 1 rfl) 32
    by_cases c4 : P = 4
    · have k4 : (P == 4) = true := by simp [c4]
      have HE2 : Hid (E = if K1 ≠ P then 5 else 0) := Lib.hid (HE1.out.trans (by rw [if_pos (.inl c4)]))
      have HUV := Lib.hid (HUNO.out (by omega))
      clear c4 HE1 HGU2 HKG HU17 HUNO
      by_cases hk : K1 = P
      · have hk' : (K1 != P) = false := by simp [hk]
        have HXE : Hid (E = 0) := Lib.hid (HE2.out.trans (by rw [if_neg (fun q => q hk)]))
        clear hk HE2
        go_upto_region 17 with (first
          | (go_at_call 7; refine (HKI.out I ic _ HO5.out.rd).mono ?_; rintro e u6 ⟨rfl, rfl⟩))
        go_wp2_with (first
          | (refine wpList_load_row rfl 25 (.tmp 9) rfl q9 rfl 25 (outc v 1 S D 0) (0, 0) _ (HM5.out.get 2 rfl) Try.underlying25 rfl (by kernel_rfl) ?_)
          | (refine wpList_store_row rfl 25 (.tmp 4) (.tmp 61) rfl w.heap.size (outc v 1 S D 0) rfl rfl 25 outz (HM5.out.get 0 rfl) (by kernel_rfl) rfl (out_one ..) ?_))
        refine bodyPost_ret (v := .tuple #[.agg (outc v 1 S D 0), .slice I R ic, .int .i64 0]) (results_row2 Try.results6 _ _ w.heap.size 25 (outc v 1 S D 0) (0, 0) _ rfl (setRow_heap _ w.heap.size _ (outc v 1 S D 0) _ _ (HM5.out.get 0 rfl)) Try.underlying25 rfl (by kernel_rfl)) rfl ?_
        obtain ⟨z1, z2, z3, z4⟩ := HUV.out
        refine .inr ⟨HXE.out, I, ic, ?_, ?_, HO5.out.cap_le, ?_, below_setRow HM5.out.below (Nat.le_refl _) _⟩
        · rw [z1, z2, z3] <;> rfl
        · rw [z3]; exact HO5.out.cap
        · rw [z3]
          exact (HO5.out.other (HM5.out.get 0 rfl) (by decide) (fun j hj => setRow_other _ w.heap.size j _ hj)).rdf.same fun k _ => z4 k
      · have hk' : (K1 != P) = true := by simpa using hk
        have HXE : Hid (E = 5) := Lib.hid (HE2.out.trans (by rw [if_pos hk]))
        clear hk HE2
        go_upto_region 16 with (first
          | (go_at_call 7; refine (HKI.out I ic _ HO5.out.rd).mono ?_; rintro e u6 ⟨rfl, rfl⟩))
        go_wp2_with (first
          | (refine wpList_zo rfl rfl ?_)
          | (refine wpList_store_row rfl 25 (.tmp 4) (.tmp 59) rfl w.heap.size outz rfl rfl 25 outz (HM5.out.get 0 rfl) (by kernel_rfl) rfl outz_one ?_))
        refine bodyPost_ret (v := .tuple #[.agg outz, .slice none 0 0, .int .i64 5]) (results_row2 Try.results6 _ _ w.heap.size 25 outz (0, 0) _ rfl (setRow_heap _ w.heap.size _ outz _ _ (HM5.out.get 0 rfl)) Try.underlying25 rfl (by kernel_rfl)) rfl ?_
        exact .inl ⟨by rw [HXE.out]; decide, by rw [HXE.out] <;> rfl, below_setRow HM5.out.below (Nat.le_refl _) _⟩
    · have k4 : (P == 4) = false := by simp [c4]
      by_cases c41 : P = 41
      · have k41 : (P == 41) = true := by simp [c41]
        have HE2 : Hid (E = if K1 ≠ P then 5 else 0) := Lib.hid (HE1.out.trans (by rw [if_pos (.inr c41)]))
        have HUV := Lib.hid (HUNO.out (by omega))
        clear c4 c41 HE1 HGU2 HKG HU17 HUNO
        by_cases hk : K1 = P
        · have hk' : (K1 != P) = false := by simp [hk]
          have HXE : Hid (E = 0) := Lib.hid (HE2.out.trans (by rw [if_neg (fun q => q hk)]))
          clear hk HE2
          go_upto_region 17 with (first
            | (go_at_call 7; refine (HKI.out I ic _ HO5.out.rd).mono ?_; rintro e u6 ⟨rfl, rfl⟩))
          go_wp2_with (first
            | (refine wpList_load_row rfl 25 (.tmp 9) rfl q9 rfl 25 (outc v 1 S D 0) (0, 0) _ (HM5.out.get 2 rfl) Try.underlying25 rfl (by kernel_rfl) ?_)
            | (refine wpList_store_row rfl 25 (.tmp 4) (.tmp 61) rfl w.heap.size (outc v 1 S D 0) rfl rfl 25 outz (HM5.out.get 0 rfl) (by kernel_rfl) rfl (out_one ..) ?_))
          refine bodyPost_ret (v := .tuple #[.agg (outc v 1 S D 0), .slice I R ic, .int .i64 0]) (results_row2 Try.results6 _ _ w.heap.size 25 (outc v 1 S D 0) (0, 0) _ rfl (setRow_heap _ w.heap.size _ (outc v 1 S D 0) _ _ (HM5.out.get 0 rfl)) Try.underlying25 rfl (by kernel_rfl)) rfl ?_
          obtain ⟨z1, z2, z3, z4⟩ := HUV.out
          refine .inr ⟨HXE.out, I, ic, ?_, ?_, HO5.out.cap_le, ?_, below_setRow HM5.out.below (Nat.le_refl _) _⟩
          · rw [z1, z2, z3] <;> rfl
          · rw [z3]; exact HO5.out.cap
          · rw [z3]
            exact (HO5.out.other (HM5.out.get 0 rfl) (by decide) (fun j hj => setRow_other _ w.heap.size j _ hj)).rdf.same fun k _ => z4 k
        · have hk' : (K1 != P) = true := by simpa using hk
          have HXE : Hid (E = 5) := Lib.hid (HE2.out.trans (by rw [if_pos hk]))
          clear hk HE2
          go_upto_region 16 with (first
            | (go_at_call 7; refine (HKI.out I ic _ HO5.out.rd).mono ?_; rintro e u6 ⟨rfl, rfl⟩))
          go_wp2_with (first
            | (refine wpList_zo rfl rfl ?_)
            | (refine wpList_store_row rfl 25 (.tmp 4) (.tmp 59) rfl w.heap.size outz rfl rfl 25 outz (HM5.out.get 0 rfl) (by kernel_rfl) rfl outz_one ?_))
          refine bodyPost_ret (v := .tuple #[.agg outz, .slice none 0 0, .int .i64 5]) (results_row2 Try.results6 _ _ w.heap.size 25 outz (0, 0) _ rfl (setRow_heap _ w.heap.size _ outz _ _ (HM5.out.get 0 rfl)) Try.underlying25 rfl (by kernel_rfl)) rfl ?_
          exact .inl ⟨by rw [HXE.out]; decide, by rw [HXE.out] <;> rfl, below_setRow HM5.out.below (Nat.le_refl _) _⟩
      · have k41 : (P == 41) = false := by simp [c41]
        by_cases c17 : P = 17
        · have k17 : (P == 17) = true := by simp [c17]
          have HE2 : Hid (E = if E7 ≠ 0 then E7 else if K2 ≠ Y9 then 5 else 0) := Lib.hid (HE1.out.trans (by rw [if_neg (by omega), if_pos c17]))
          have HUV := Lib.hid (HU17.out c17)
          clear c4 c41 c17 HE1 HKI HU17 HUNO
          have x91 : u5.cell? ⟨q9, 1, none⟩ = some (.int .u8 1) := blk_cell (HM5.out.get 2 rfl) 1
          have f91 := blk_free (HM5.out.get 2 rfl) 1
          go_upto_region 12 with fail
          have HM6 : Hid (Mem w (u5.setCell ⟨q9, 1, none⟩ (.int .u8 2)) [(w.heap.size, .cells outz 25 (0, 0)), (q7, .cells (outs S D P (.slice I R ic)) 44 (0, 0)), (q9, .cells (outc v 2 S D 0) 25 (0, 0))]) := Lib.hid (HM5.out.set 2 rfl 1 (.int .u8 2))
          have HO6 : Hid (Own (u5.setCell ⟨q9, 1, none⟩ (.int .u8 2)) w.heap.size 5 I R ic G) := Lib.hid (HO5.out.other (HM5.out.get 2 rfl) (by decide) (fun j hj => Below.heap_setCell u5 ⟨q9, 1, none⟩ _ j hj))
          clear x91 f91 x32 HM5 HO5
          generalize u5.setCell ⟨q9, 1, none⟩ (.int .u8 2) = u6 at *
          go_wp2_with (first
            | (refine wpList_load_row rfl 44 (.tmp 7) rfl q7 rfl 44 (outs S D P (.slice I R ic)) (0, 0) _ (HM6.out.get 1 rfl) Try.underlying44 rfl (by kernel_rfl) ?_))
          go_at_call 12
          refine (HGU2.out I ic u6 HO6.out.cap HO6.out.cap_le HO6.out.rd).mono ?_
          rintro e u7 (⟨h7, rfl, hb⟩ | ⟨h7, J, jc, rfl, hj1, hj2, hj, hb⟩)
          · have h7' : (E7 != 0) = true := by simpa using h7
            have h7b : (E7 == 0) = false := by simpa using h7
            have HXE : Hid (E = E7) := Lib.hid (HE2.out.trans (by rw [if_pos h7]))
            have HM7 := Lib.hid (HM6.out.step hb)
            clear hb HM6 HO6 HGU2 HKG HE2 HUV
            have x934 : u7.cell? ⟨q9, 34, none⟩ = some (.int .u16 0) := blk_cell (HM7.out.get 2 rfl) 34
            have f934 := blk_free (HM7.out.get 2 rfl) 34
            go_upto_region 13 with fail
            have HM8 : Hid (Mem w (u7.setCell ⟨q9, 34, none⟩ (.int .u16 0)) [(w.heap.size, .cells outz 25 (0, 0)), (q7, .cells (outs S D P (.slice I R ic)) 44 (0, 0)), (q9, .cells (outc v 2 S D 0) 25 (0, 0))]) := Lib.hid (HM7.out.set 2 rfl 34 (.int .u16 0))
            clear x934 f934 HM7
            generalize u7.setCell ⟨q9, 34, none⟩ (.int .u16 0) = u8 at *
            go_wp2_with (first
              | (refine wpList_zo rfl rfl ?_)
              | (refine wpList_store_row rfl 25 (.tmp 4) (.tmp 59) rfl w.heap.size outz rfl rfl 25 outz (HM8.out.get 0 rfl) (by kernel_rfl) rfl outz_one ?_))
            refine bodyPost_ret (v := .tuple #[.agg outz, .slice none 0 0, .int .i64 E7]) (results_row2 Try.results6 _ _ w.heap.size 25 outz (0, 0) _ rfl (setRow_heap _ w.heap.size _ outz _ _ (HM8.out.get 0 rfl)) Try.underlying25 rfl (by kernel_rfl)) rfl ?_
            exact .inl ⟨by rw [HXE.out]; exact h7, by rw [HXE.out] <;> rfl, below_setRow HM8.out.below (Nat.le_refl _) _⟩
          · have HJ7 := Lib.hid hj
            have HJC : Hid (R - 12 ≤ jc ∧ jc ≤ 9223372036854775807) := Lib.hid ⟨hj1, hj2⟩
            have HM7 := Lib.hid (HM6.out.step hb)
            have hl9 := lt_heap (HM6.out.get 2 rfl)
            have hl0 := lt_heap (HM6.out.get 0 rfl)
            have HE3 : Hid (E = if K2 ≠ Y9 then 5 else 0) := Lib.hid (HE2.out.trans (by rw [if_neg (fun q => q h7)]))
            clear hb HM6 HO6 HGU2 HE2 hj hj1 hj2 h7
            have x934 : u7.cell? ⟨q9, 34, none⟩ = some (.int .u16 0) := blk_cell (HM7.out.get 2 rfl) 34
            have f934 := blk_free (HM7.out.get 2 rfl) 34
            go_upto_region 13 with fail
            have HM8 : Hid (Mem w (u7.setCell ⟨q9, 34, none⟩ (.int .u16 P0)) [(w.heap.size, .cells outz 25 (0, 0)), (q7, .cells (outs S D P (.slice I R ic)) 44 (0, 0)), (q9, .cells (outc v 2 S D P0) 25 (0, 0))]) := Lib.hid (HM7.out.set 2 rfl 34 (.int .u16 P0))
            have HJ8 : Hid (RdF (u7.setCell ⟨q9, 34, none⟩ (.int .u16 P0)) u6.heap.size J (R - 12) (fun k => G (12 + k))) := Lib.hid (HJ7.out.other hl9 (by simp) (fun j hj => Below.heap_setCell u7 ⟨q9, 34, none⟩ _ j hj))
            clear x934 f934 HM7 HJ7 hl9
            generalize u7.setCell ⟨q9, 34, none⟩ (.int .u16 P0) = u8 at *
            generalize hRJ : R - 12 = RJ at *
            by_cases hk : K2 = Y9
            · have hk' : (K2 != Y9) = false := by simp [hk]
              have HXE : Hid (E = 0) := Lib.hid (HE3.out.trans (by rw [if_neg (fun q => q hk)]))
              clear hk HE3
              go_upto_region 17 with (first
                | (go_at_call 7; refine (HKG.out J jc _ HJ8.out.rd).mono ?_; rintro e u9 ⟨rfl, rfl⟩))
              go_wp2_with (first
                | (refine wpList_load_row rfl 25 (.tmp 9) rfl q9 rfl 25 (outc v 2 S D P0) (0, 0) _ (HM8.out.get 2 rfl) Try.underlying25 rfl (by kernel_rfl) ?_)
                | (refine wpList_store_row rfl 25 (.tmp 4) (.tmp 61) rfl w.heap.size (outc v 2 S D P0) rfl rfl 25 outz (HM8.out.get 0 rfl) (by kernel_rfl) rfl (out_one ..) ?_))
              refine bodyPost_ret (v := .tuple #[.agg (outc v 2 S D P0), .slice J RJ jc, .int .i64 0]) (results_row2 Try.results6 _ _ w.heap.size 25 (outc v 2 S D P0) (0, 0) _ rfl (setRow_heap _ w.heap.size _ (outc v 2 S D P0) _ _ (HM8.out.get 0 rfl)) Try.underlying25 rfl (by kernel_rfl)) rfl ?_
              obtain ⟨z1, z2, z3, z4⟩ := HUV.out
              refine .inr ⟨HXE.out, J, jc, ?_, ?_, HJC.out.2, ?_, below_setRow HM8.out.below (Nat.le_refl _) _⟩
              · rw [z1, z2, z3] <;> rfl
              · rw [z3]; exact HJC.out.1
              · rw [z3]
                exact ((HJ8.out.other hl0 (by simp) (fun j hj => setRow_other _ w.heap.size j _ hj)).le (Nat.le_of_lt hl0)).same fun k _ => z4 k
            · have hk' : (K2 != Y9) = true := by simpa using hk
              have HXE : Hid (E = 5) := Lib.hid (HE3.out.trans (by rw [if_pos hk]))
              clear hk HE3
              go_upto_region 16 with (first
                | (go_at_call 7; refine (HKG.out J jc _ HJ8.out.rd).mono ?_; rintro e u9 ⟨rfl, rfl⟩))
              go_wp2_with (first
                | (refine wpList_zo rfl rfl ?_)
                | (refine wpList_store_row rfl 25 (.tmp 4) (.tmp 59) rfl w.heap.size outz rfl rfl 25 outz (HM8.out.get 0 rfl) (by kernel_rfl) rfl outz_one ?_))
              refine bodyPost_ret (v := .tuple #[.agg outz, .slice none 0 0, .int .i64 5]) (results_row2 Try.results6 _ _ w.heap.size 25 outz (0, 0) _ rfl (setRow_heap _ w.heap.size _ outz _ _ (HM8.out.get 0 rfl)) Try.underlying25 rfl (by kernel_rfl)) rfl ?_
              exact .inl ⟨by rw [HXE.out]; decide, by rw [HXE.out] <;> rfl, below_setRow HM8.out.below (Nat.le_refl _) _⟩
        · have k17 : (P == 17) = false := by simp [c17]
          have HXE : Hid (E = 10) := Lib.hid (HE1.out.trans (by rw [if_neg (by omega), if_neg c17]))
          clear c4 c41 c17 HE1 HGU2 HKG HKI HU17 HUNO
          go_upto_region 16 with fail
          go_wp2_with (first
            | (refine wpList_zo rfl rfl ?_)
            | (refine wpList_store_row rfl 25 (.tmp 4) (.tmp 59) rfl w.heap.size outz rfl rfl 25 outz (HM5.out.get 0 rfl) (by kernel_rfl) rfl outz_one ?_))
          refine bodyPost_ret (v := .tuple #[.agg outz, .slice none 0 0, .int .i64 10]) (results_row2 Try.results6 _ _ w.heap.size 25 outz (0, 0) _ rfl (setRow_heap _ w.heap.size _ outz _ _ (HM5.out.get 0 rfl)) Try.underlying25 rfl (by kernel_rfl)) rfl ?_
          exact .inl ⟨by rw [HXE.out]; decide, by rw [HXE.out] <;> rfl, below_setRow HM5.out.below (Nat.le_refl _) _⟩
end Go.Proofs.Ythjgecdnlpdcdaa
