import Derived.Test.YtkmakdhlaenaoaaGm37
/- Stage 11: the same that fired; the play's tick. -/
namespace Go.Proofs.Ytkmakdhlaenaoaa
set_option maxRecDepth 100000
open Go.RowKit Go.Shelf
theorem eqH9 (a b : Int) (W : World) : (Op.equalIn 9999 46 (.agg #[.int .i64 a, .int .u64 b]) (.agg #[.int .i64 a, .int .u64 b])).run Try.prog W = .ok true W := by
  have hf : Try.prog.underlying 46 = some (.struct (Try.prog.fieldsOf 46)) := by kernel_rfl
  rw [run_equalIn_struct W 9998 46 _ _ hf (by kernel_rfl)]
  have hl : (Try.prog.fieldsOf 46).toList = [{ name := "I", type := 3, offset := 0, embedded := false, tag := "", pkgPath := "", byteOffset := 0 }, { name := "Serial", type := 22, offset := 1, embedded := false, tag := "", pkgPath := "", byteOffset := 8 }] := by kernel_rfl
  rw [hl]
  have e1 := run_equalIn_int (P := Try.prog) W 9997 3 .i64 .i64 a a Try.underlying3
  have e2 := run_equalIn_int (P := Try.prog) W 9997 22 .u64 .u64 b b Try.underlying22
  have p0 : ∀ (a b : Int), (part 3 #[.int .i64 a, .int .u64 b] 0).run Try.prog W = .ok (.int .i64 a) W := fun a b => by kernel_rfl
  have p1 : ∀ (a b : Int), (part 22 #[.int .i64 a, .int .u64 b] 1).run Try.prog W = .ok (.int .u64 b) W := fun a b => by kernel_rfl
  rw [beq_self_eq_true] at e1 e2
  simp [Op.eqFields, Sem.run_bind, p0, p1, e1, e2, Result.andThen_ok, Sem.run_ite, Sem.run_pure]
theorem eqF (a b c : Int) (W : World) : (Op.equalIn 10000 58 (.agg #[.int .i64 a, .int .u64 b, .int .u64 c]) (.agg #[.int .i64 a, .int .u64 b, .int .u64 c])).run Try.prog W = .ok true W := by
  have hf : Try.prog.underlying 58 = some (.struct (Try.prog.fieldsOf 58)) := by kernel_rfl
  rw [run_equalIn_struct W 9999 58 _ _ hf (by kernel_rfl)]
  have hl : (Try.prog.fieldsOf 58).toList = [{ name := "H", type := 46, offset := 0, embedded := false, tag := "", pkgPath := "", byteOffset := 0 }, { name := "What", type := 22, offset := 2, embedded := false, tag := "", pkgPath := "", byteOffset := 16 }] := by kernel_rfl
  rw [hl]
  have e1 := eqH9 a b W
  have e2 := run_equalIn_int (P := Try.prog) W 9998 22 .u64 .u64 c c Try.underlying22
  have p0 : ∀ (a b c : Int), (part 46 #[.int .i64 a, .int .u64 b, .int .u64 c] 0).run Try.prog W = .ok (.agg #[.int .i64 a, .int .u64 b]) W := fun a b c => by kernel_rfl
  have p1 : ∀ (a b c : Int), (part 22 #[.int .i64 a, .int .u64 b, .int .u64 c] 2).run Try.prog W = .ok (.int .u64 c) W := fun a b c => by kernel_rfl
  rw [beq_self_eq_true] at e2
  simp [Op.eqFields, Sem.run_bind, p0, p1, e1, e2, Result.andThen_ok, Sem.run_ite, Sem.run_pure]
theorem neqF (a b c : Int) (W : World) : (binOp .neq 58 (.agg #[.int .i64 a, .int .u64 b, .int .u64 c]) (.agg #[.int .i64 a, .int .u64 b, .int .u64 c])).run Try.prog W = .ok (.bool false) W := by
  have h : (Op.equalIn Op.maxDepth 58 (.agg #[.int .i64 a, .int .u64 b, .int .u64 c]) (.agg #[.int .i64 a, .int .u64 b, .int .u64 c])).run Try.prog W = _ := eqF a b c W
  unfold binOp
  simp [Op.equal, h, Result.andThen_ok]
theorem rng_three {w : World} {b o : Nat} {x y z : Value} (h0 : w.cell? ⟨b, o, none⟩ = some x) (h1 : w.cell? ⟨b, o + 1, none⟩ = some y) (h2 : w.cell? ⟨b, o + 2, none⟩ = some z) : w.rangeAt b o [x, y, z] := fun i v hv => by
  match i, hv with
  | 0, hv => rw [← hv]; exact h0
  | 1, hv => rw [← hv]; exact h1
  | 2, hv => rw [← hv]; exact h2
theorem rd_row {w : World} {B : Nat} {A : Option Addr} {F : List Tm} (h : RdC w B A (F.length * 3) (rwc 3 fev F)) {j : Nat} {x : Tm} (hx : F[j]? = some x) : ∃ g off, A = some ⟨g, off, none⟩ ∧ g < B ∧ w.rangeAt g (off + j * 3) [.int .i64 (x.i : Int), .int .u64 (x.k : Int), .int .u64 (x.what : Int)] := by
  obtain ⟨hlt, _⟩ := List.getElem?_eq_some_iff.1 hx
  obtain ⟨g, off, e, hg, hc⟩ := h.resolve_left (by omega)
  have hh : ∀ i, i < 3 → w.cell? ⟨g, off + (j * 3 + i), none⟩ = some ((fev x).getD i undef) := fun i hi => by rw [hc (j * 3 + i) (by omega)]; exact congrArg some (rwc_at hx hi)
  exact ⟨g, off, e, hg, rng_three (hh 0 (by omega)) (by rw [Nat.add_assoc]; exact hh 1 (by omega)) (by rw [Nat.add_assoc]; exact hh 2 (by omega))⟩
theorem same_any (F : List Tm) (hF : F.length ≤ 65536) (A B : Option Addr) (c d : Nat) (hc : F.length ≤ c) (hc9 : c ≤ 9223372036854775807) (hd : F.length ≤ d) (hd9 : d ≤ 9223372036854775807) (w : World) (h1 : RdC w w.heap.size A (F.length * 3) (rwc 3 fev F)) (h2 : RdC w w.heap.size B (F.length * 3) (rwc 3 fev F)) :
    Calls Try.prog 52 #[.slice A F.length c, .slice B F.length d] w (ret (.bool true) w) := by
  have H1 := Lib.hid h1
  have H2 := Lib.hid h2
  obtain ⟨n, hn⟩ : ∃ n, n = F.length := ⟨_, rfl⟩
  have HN := Lib.hid hn
  rw [← hn] at hF hc hd ⊢
  clear h1 h2 hn
  go_enter Try.func52, Try.ntmps52
  go_wp2_with fail
  go_loopw [5] (fun vi wr => ∃ j : Nat, vi = .int .i64 (j : Int) ∧ j ≤ n ∧ Below w.heap.size w wr) (fun vi _ => n - (intOf vi).toNat)
  case atStart => exact ⟨0, rfl, Nat.zero_le _, Below.refl _ _⟩
  case round =>
    obtain ⟨j, rfl, hj, hb⟩ := hrel
    have HB := Lib.hid hb
    clear hb
    by_cases hjn : j < n
    · have j1 : (j : Int) < (n : Int) := by omega
      have j0 : (0 : Int) ≤ (j : Int) := by omega
      have j2 : ((j : Int)).toNat = j := by omega
      have zj : IntKind.i64.wrap ((j : Int) + 1) = (j : Int) + 1 := by rw [IntKind.wrap_i64]; omega
      obtain ⟨x, hx⟩ : ∃ x, F[j]? = some x := ⟨_, List.getElem?_eq_getElem (by rw [← HN.out]; exact hjn)⟩
      obtain ⟨g, off, rfl, hg, hr1⟩ := rd_row (H1.out.keep HB.out) hx
      obtain ⟨g', off', rfl, hg', hr2⟩ := rd_row (H2.out.keep HB.out) hx
      have HR1 : Hid (∀ x', (∃ V : Stay wr, x' = V.w) → x'.rangeAt g (off + j * 3) [.int .i64 (x.i : Int), .int .u64 (x.k : Int), .int .u64 (x.what : Int)]) := Lib.hid (stay_rng (Nat.lt_of_lt_of_le hg HB.out.size) hr1)
      have HR2 : Hid (∀ x', (∃ V : Stay wr, x' = V.w) → x'.rangeAt g' (off' + j * 3) [.int .i64 (x.i : Int), .int .u64 (x.k : Int), .int .u64 (x.what : Int)]) := Lib.hid (stay_rng (Nat.lt_of_lt_of_le hg' HB.out.size) hr2)
      have heq := neqF (x.i : Int) (x.k : Int) (x.what : Int)
      clear hx hr1 hr2 hg hg'
      go_upto_region 6 with fail
      refine wp_region_stay (by kernel_rfl) (by kernel_rfl) ?_
      repeat (first
        | (refine qh_mid rfl 58 (.tmp 19) rfl g (off + j * 3) rfl #[.int .i64 (x.i : Int), .int .u64 (x.k : Int), .int .u64 (x.what : Int)] _ HR1.out Try.underlying58 rfl (by kernel_rfl) ?_
           simp only [Act.put, List.setIfInBounds_toArray, List.set_cons_zero, List.set_cons_succ])
        | (refine qh_mid rfl 58 (.tmp 23) rfl g' (off' + j * 3) rfl #[.int .i64 (x.i : Int), .int .u64 (x.k : Int), .int .u64 (x.what : Int)] _ HR2.out Try.underlying58 rfl (by kernel_rfl) ?_
           simp only [Act.put, List.setIfInBounds_toArray, List.set_cons_zero, List.set_cons_succ])
        | go_big_quiet_step (fail))
      refine wpQuiet_nil ?_
      intro w' hw'
      obtain ⟨V, rfl⟩ := hw'
      have HBV : Hid (Below w.heap.size w V.w) := Lib.hid (HB.out.trans (V.below.mono HB.out.size))
      clear HR1 HR2 heq HB
      generalize V.w = u2 at *
      go_wp2_with fail
      go_roundw
      case rel => exact ⟨j + 1, by go_num, by omega, HBV.out⟩
      case measure => simp [intOf]; omega
    · obtain rfl : n = j := by omega
      go_wp2_with fail
      go_ret
      exact ⟨rfl, HB.out⟩
section
variable {w W : World} {X : Nat → Prop} {b p q : Nat} {E : Option Addr} {hc tk : Nat} {hs : List (Nat × Nat)} {s t : Wh}
theorem PL.both (h : PL w X W b p q E hc hs tk s t) : ∃ F G, PW W p s F ∧ DW W q t G ∧ ∀ w1 s' F', PW w1 p s' F' → Ext F F' W w1 → DW w1 q t G ∧ PL w X w1 b p q E hc hs tk s' t ∧ (∀ k, X k → w1.heap[k]? = W.heap[k]?) ∧ ∀ w2 t' G', DW w2 q t' G' → Ext G G' w1 w2 → PL w X w2 b p q E hc hs tk s' t' ∧ ∀ k, X k → w2.heap[k]? = w1.heap[k]? := by
  obtain ⟨F, G, hp, hq, h1, h2⟩ := h.st
  refine ⟨F, G, hp, hq, fun w1 s' F' hp' he => ?_⟩
  have hlt := lt_heap h.blk
  have hw := h.below.size
  have hq1 := hq.keep he.kept fun k hg hf => (h1 k hf).2.2.2.1 hg
  have h1' : ∀ k, F' k → w.heap.size ≤ k ∧ ¬ X k ∧ k ≠ b ∧ ¬ G k ∧ Value.ownBlock (.slice E hs.length hc) ≠ some k := fun k hf => by
    rcases he.sub k hf with q1 | ⟨q1, _⟩
    · exact h1 k q1
    · exact ⟨by omega, fun hx => by have := h.xo k hx; omega, by omega, fun hg => by have := hq.old k hg; omega, fun e => by have := h.own_lt e; omega⟩
  have ht := h.turn hp' hq1 he.kept (fun hf => (h1 b hf).2.2.1 rfl) (fun k e hf => (h1 k hf).2.2.2.2 e) (fun k hx hf => (h1 k hf).2.1 hx) (fun k hf => (h1 k hf).1) h1' h2
  refine ⟨hq1, ht.1, ht.2, fun w2 t' G' hq2 he2 => ?_⟩
  have hlt1 := lt_heap ht.1.blk
  have hw1 := ht.1.below.size
  refine ht.1.turn (hp'.keep he2.kept fun k hf hg => (h1' k hf).2.2.2.1 hg) hq2 he2.kept (fun hf => (h2 b hf).2.2.1 rfl) (fun k e hf => (h2 k hf).2.2.2 e) (fun k hx hf => (h2 k hf).2.1 hx) (fun k hf => (h2 k hf).1) (fun k hf => ?_) (fun k hf => ?_)
  · obtain ⟨a1, a2, a3, a4, a5⟩ := h1' k hf
    refine ⟨a1, a2, a3, fun hg => ?_, a5⟩
    rcases he2.sub k hg with q1 | ⟨q1, _⟩
    · exact a4 q1
    · have := hp'.old k hf
      omega
  · rcases he2.sub k hf with q1 | ⟨q1, _⟩
    · exact h2 k q1
    · exact ⟨by omega, fun hx => by have := ht.1.xo k hx; omega, by omega, fun e => by have := ht.1.own_lt e; omega⟩
end
/-- So many ticks, with those that the play has left. -/
def ticksN : Nat → Nat → Wh → Wh
  | 0, _, s => s
  | n + 1, tk, s => if 70000 < tk + 1 then s else ticksN n (tk + 1) s.tick
section
variable {w W : World} {X : Nat → Prop} {b p q : Nat} {E : Option Addr} {hc tk : Nat} {hs : List (Nat × Nat)} {s : Wh} {m : Nat}
set_option maxHeartbeats 2000000 in
theorem play_tick (h : PL w X W b p q E hc hs tk s s) (hf : s.Fit m) (n : Nat) (hn : n ≤ 70001) (htk : tk ≤ 4611686018427387904) : Calls Try.prog 28 #[.pointer (some ⟨b, 0, none⟩), .int .u64 (n : Int)] W fun e w' => e = .returned (.bool true) ∧
    ∃ tk' s', PL w X w' b p q E hc hs tk' s' s' ∧ s'.Fit m ∧ tk' ≤ tk + n ∧ ∀ j, X j → w'.heap[j]? = W.heap[j]? := by
  have HP0 := Lib.hid h
  have HF0 := Lib.hid hf
  clear h hf
  go_enter Try.func28, Try.ntmps28
  go_wp2_with fail
  go_loopw [10] (fun vi wr => ∃ (j tk' : Nat) (s' : Wh), vi = .int .u64 (j : Int) ∧ j ≤ n ∧ PL w X wr b p q E hc hs tk' s' s' ∧ s'.Fit m ∧ tk' = tk + j ∧ ∀ j, X j → wr.heap[j]? = W.heap[j]?) (fun vi _ => n - (intOf vi).toNat)
  case atStart => exact ⟨0, tk, s, rfl, Nat.zero_le _, HP0.out, HF0.out, rfl, fun _ _ => rfl⟩
  case round =>
    obtain ⟨j, tk', s', rfl, hj, hp, hf, htk', hx⟩ := hrel
    have HP := Lib.hid hp
    have HF := Lib.hid hf
    have HX := Lib.hid hx
    clear hp hf hx HP0 HF0
    by_cases hjn : j < n
    · have j1 : (j : Int) < (n : Int) := by omega
      have zj : IntKind.u64.wrap ((j : Int) + 1) = (j : Int) + 1 := by rw [IntKind.wrap_u64]; omega
      obtain ⟨t1, ht1⟩ : ∃ t1 : Nat, t1 = tk' + 1 := ⟨_, rfl⟩
      have zt : IntKind.u64.wrap ((tk' : Int) + 1) = (t1 : Int) := by rw [IntKind.wrap_u64]; omega
      have x3 : wr.cell? ⟨b, 3, none⟩ = some (.int .u64 (tk' : Int)) := blk_cell HP.out.blk 3
      have y3 := blk_free HP.out.blk 3
      have HP1 := Lib.hid (HP.out.ticked t1)
      have HX1 : Hid (∀ j, X j → (wr.setCell ⟨b, 3, none⟩ (.int .u64 (t1 : Int))).heap[j]? = W.heap[j]?) := Lib.hid fun j hj => (setCell_far _ (p := ⟨b, 3, none⟩) (fun e => HP.out.xb (by have e : j = b := e; rw [← e]; exact hj)) _).trans (HX.out j hj)
      have HJ : Hid (t1 = tk + (j + 1)) := Lib.hid (by omega)
      clear HP HX ht1 htk'
      go_upto_region 4 with fail
      clear x3 y3 zt
      generalize wr.setCell ⟨b, 3, none⟩ (.int .u64 (t1 : Int)) = u1 at *
      have x3 : u1.cell? ⟨b, 3, none⟩ = some (.int .u64 (t1 : Int)) := blk_cell HP1.out.blk 3
      by_cases ht : 70000 < t1
      · have b1 : (70000 : Int) < (t1 : Int) := by omega
        clear ht
        go_wp2_with fail
        try rw [Exit.noGoto_ret]
        go_ret
        exact ⟨rfl, t1, s', HP1.out, HF.out, by have := HJ.out; omega, HX1.out⟩
      · have b1 : ¬ (70000 : Int) < (t1 : Int) := by omega
        clear ht
        obtain ⟨F, G, hpw, hdw, hleft⟩ := HP1.out.both
        have HGO := Lib.hid hdw.old
        have HLC := Lib.hid (pw_tick hpw HF.out)
        have HLT := Lib.hid hleft
        have x0 : u1.cell? ⟨b, 0, none⟩ = some (.pointer (some ⟨p, 0, none⟩)) := blk_cell HP1.out.blk 0
        obtain ⟨er, her⟩ : ∃ er, er = s'.tickE := ⟨_, rfl⟩
        obtain ⟨T, hT⟩ : ∃ T, T = s'.told := ⟨_, rfl⟩
        have HER := Lib.hid her
        have HT := Lib.hid hT
        have HTL : Hid (T.length ≤ 65536) := Lib.hid (by
          have h1 : T.length ≤ s'.l.length := by
            rw [hT]
            unfold Wh.told
            split
            · exact Nat.zero_le _
            · exact List.length_filter_le ..
          exact Nat.le_trans h1 HF.out.len)
        rw [← her, ← hT] at HLC
        clear her hT hpw hdw hleft
        go_upto_region 7 with (first
          | (go_at_call 16
             refine (HLC.out).mono ?_
             rintro e u2 ⟨A1, d1, rfl, ho, F', hp', he', _⟩
             have hh := HLT.out _ _ _ hp' he'
             have HP2 := Lib.hid hh.2.1
             have HX2 : Hid (∀ j, X j → u2.heap[j]? = W.heap[j]?) := Lib.hid fun j hj => (hh.2.2.1 j hj).trans (HX1.out j hj)
             have HRC := Lib.hid (dw_tick hh.1 HF.out)
             have HRT := Lib.hid hh.2.2.2
             have HNG : Hid (∀ k, Value.ownBlock (.slice A1 T.length d1) = some k → ¬ G k) := Lib.hid fun k e hk => by
               have h1 := ho.at_ k e
               have h2 := HGO.out k hk
               omega
             rw [← HER.out, ← HT.out] at HRC
             have HO2 := Lib.hid ho
             clear hh hp' he' ho HLC HLT x0 x3))
        have x0 : u2.cell? ⟨b, 1, none⟩ = some (.pointer (some ⟨q, 0, none⟩)) := blk_cell HP2.out.blk 1
        go_upto_region 8 with (first
          | (go_at_call 51
             refine (HRC.out).mono ?_
             rintro e u3 ⟨A2, d2, rfl, ho, G', hp', he'⟩
             have hh := HRT.out _ _ _ hp' he'
             have HP3 := Lib.hid hh.1
             have HX3 : Hid (∀ j, X j → u3.heap[j]? = W.heap[j]?) := Lib.hid fun j hj => (hh.2 j hj).trans (HX2.out j hj)
             have HO3 := Lib.hid (own_beside HO2.out HNG.out he').1
             have HO4 := Lib.hid ho
             clear hh hp' he' ho HRC HRT x0 HNG))
        have HSM := Lib.hid (same_any T HTL.out A1 A2 d1 d2 HO3.out.cap (by have := HO3.out.cap_le; unfold maxLen at this; exact this) HO4.out.cap (by have := HO4.out.cap_le; unfold maxLen at this; exact this) u3 HO3.out.rd HO4.out.rd)
        go_upto_region 10 with (first
          | (go_at_call 52
             refine (HSM.out).mono ?_
             rintro e u4 ⟨rfl, hb⟩
             have HP4 := Lib.hid (HP3.out.step hb)
             have HX4 : Hid (∀ j, X j → u4.heap[j]? = W.heap[j]?) := Lib.hid fun j hj => (hb.block j (HP3.out.xo j hj)).trans (HX3.out j hj)
             clear hb HSM))
        go_wp2_with fail
        go_roundw
        case rel => exact ⟨j + 1, t1, s'.tick, by go_num, by omega, HP4.out, Wh.fit_tick HF.out, HJ.out, HX4.out⟩
        case measure => simp [intOf]; omega
    · obtain rfl : n = j := by omega
      go_wp2_with fail
      go_ret
      exact ⟨rfl, tk', s', HP.out, HF.out, by omega, HX.out⟩
end
end Go.Proofs.Ytkmakdhlaenaoaa
