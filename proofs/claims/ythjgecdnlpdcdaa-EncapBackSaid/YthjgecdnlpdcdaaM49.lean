import Derived.Test.YthjgecdnlpdcdaaM48
import Derived.Test.YthjgecdnlpdcdaaM0
import Derived.ProofKit
import Derived.Lib.SmallJoins
import Derived.Carry
import Derived.ChangeMaps5
/- Layer 8: the law, walked. -/
namespace Go.Proofs.Ythjgecdnlpdcdaa
set_option maxRecDepth 100000
open Go.RowKit
theorem eqO (v : Bool) (m : Int) (s e : Nat → Int) (sp : Int) (w : World) : (Op.equalIn 10000 25 (.agg (outc v m s e sp)) (.agg (outc v m s e sp))).run Try.prog w = .ok true w := by
  have hf : Try.prog.underlying 25 = some (.struct (Try.prog.fieldsOf 25)) := by kernel_rfl
  rw [run_equalIn_struct w 9999 25 _ _ hf (by kernel_rfl)]
  have e1 : ∀ (a : Int) (w : World), (Op.equalIn 9999 23 (.int .u16 a) (.int .u16 a)).run Try.prog w = .ok true w := fun a w => by
    have h := run_equalIn_int (P := Try.prog) w 9998 23 .u16 .u16 a a Try.underlying23
    simpa using h
  have e2 : ∀ (b : Bool) (w : World), (Op.equalIn 9999 4 (.bool b) (.bool b)).run Try.prog w = .ok true w := fun b w => by
    have h := run_equalIn_bool' (P := Try.prog) w 9998 4 b b Try.underlying4
    simpa using h
  have e3 : ∀ (a : Int) (w : World), (Op.equalIn 9999 5 (.int .u8 a) (.int .u8 a)).run Try.prog w = .ok true w := fun a w => by
    have h := run_equalIn_int (P := Try.prog) w 9998 5 .u8 .u8 a a Try.underlying5
    simpa using h
  have e4 : ∀ (x : Nat → Int) (w : World), (Op.equalIn 9999 22 (.agg (arr16 x)) (.agg (arr16 x))).run Try.prog w = .ok true w := fun x w => by
    have h := equal_bytes (P := Try.prog) 9997 22 5 16 (arr16 x) (arr16 x) x x Try.underlying22 Try.underlying5 (by kernel_rfl) (fun k hk => arr16_get x k hk) (fun k hk => arr16_get x k hk) w
    rw [eqs_self] at h
    exact h
  have hl : (Try.prog.fieldsOf 25).toList = [{ name := "V6", type := 4, offset := 0, embedded := false, tag := "", pkgPath := "", byteOffset := 0 }, { name := "Mode", type := 5, offset := 1, embedded := false, tag := "", pkgPath := "", byteOffset := 1 }, { name := "Src", type := 22, offset := 2, embedded := false, tag := "", pkgPath := "", byteOffset := 2 }, { name := "Dst", type := 22, offset := 18, embedded := false, tag := "", pkgPath := "", byteOffset := 18 }, { name := "SPort", type := 23, offset := 34, embedded := false, tag := "", pkgPath := "", byteOffset := 34 }] := by kernel_rfl
  rw [hl]
  have p0 : (part 4 (outc v m s e sp) 0).run Try.prog w = .ok (.bool v) w := by kernel_rfl
  have p1 : (part 5 (outc v m s e sp) 1).run Try.prog w = .ok (.int .u8 m) w := by kernel_rfl
  have p2 : (part 22 (outc v m s e sp) 2).run Try.prog w = .ok (.agg (arr16 s)) w := by kernel_rfl
  have p3 : (part 22 (outc v m s e sp) 18).run Try.prog w = .ok (.agg (arr16 e)) w := by kernel_rfl
  have p4 : (part 23 (outc v m s e sp) 34).run Try.prog w = .ok (.int .u16 sp) w := by kernel_rfl
  refine Eq.trans (eqF_step (by decide) p0 p0 (e2 v w)) ?_
  refine Eq.trans (eqF_step (by decide) p1 p1 (e3 m w)) ?_
  refine Eq.trans (eqF_step (by decide) p2 p2 (e4 s w)) ?_
  refine Eq.trans (eqF_step (by decide) p3 p3 (e4 e w)) ?_
  refine Eq.trans (eqF_step (by decide) p4 p4 (e1 sp w)) ?_
  simp only [Op.eqFields, Sem.run_pure]
theorem at_in8 (a : Int) (n : Nat) (hn : 0 < n) (hn' : n ≤ 1646) : ∃ m : Nat, m < n ∧ (IntKind.u64.wrap a).tmod (n : Int) = (m : Int) := by
  have h0 : 0 ≤ IntKind.u64.wrap a := by simp only [IntKind.wrap_u64]; omega
  rw [Int.tmod_eq_emod_of_nonneg h0]
  have h1 := Int.emod_nonneg (IntKind.u64.wrap a) (b := (n : Int)) (by omega)
  have h2 := Int.emod_lt_of_pos (IntKind.u64.wrap a) (b := (n : Int)) (by omega)
  generalize IntKind.u64.wrap a % (n : Int) = r at *
  exact ⟨r.toNat, by omega, by omega⟩
theorem ba_ne {S4 S3 : ByteArray} (hne : S4 ≠ S3) : (S4.toList == S3.toList) = false := by
  refine beq_eq_false_iff_ne.2 fun e => hne ?_
  rw [ByteArray.toList_eq, ByteArray.toList_eq] at e
  obtain ⟨d4⟩ := S4
  obtain ⟨d3⟩ := S3
  have e2 : d4 = d3 := Array.toList_inj.1 e
  rw [e2]
theorem xor_zero (x : Int) (hx : 0 ≤ x ∧ x ≤ 255) : bits .xor .u8 x 0 = x := by
  obtain ⟨X, rfl⟩ := Int.eq_ofNat_of_zero_le hx.1
  have hX : X < 256 := by omega
  have e : bits .xor .u8 (X : Int) ((0 : Nat) : Int) = IntKind.u8.wrap ((X ^^^ 0 : Nat) : Int) := by
    unfold bits
    simp only [toNat_ofInt _ X (show X < 2 ^ IntKind.u8.bits by simpa [IntKind.bits] using hX), toNat_ofInt _ 0 (show 0 < 2 ^ IntKind.u8.bits by simp [IntKind.bits]), BitVec.toNat_xor]
  rw [Nat.xor_zero, wr_u8 _ (by omega)] at e
  exact e
set_option maxHeartbeats 1000000 in
theorem eback_long (v : Bool) (m : Int) (s d : Nat → Int) (sp : Int) (A : Option Addr) (n c : Nat) (h : 1700 < n) (a x : Int) (w : World) :
    Calls Try.prog 3 #[.agg (outc v m s d sp), .slice A n c, .int .i64 a, .int .u8 x] w fun e w' => e = .returned (.bool true) ∧ Below w.heap.size w w' := by
  have KN := Lib.hid eknown_any
  have h' : (n : Int) > 1700 := by omega
  have HM1 : Hid (Below w.heap.size w (w.alloc (.cells (outc v m s d sp) 25))) := Lib.hid (below_alloc w _)
  go_enter Try.func3, Try.ntmps3
  go_upto_if 17 with fail
  change Code.wp _ _ _ _ (w.alloc (.cells (outc v m s d sp) 25))
  generalize w.alloc (.cells (outc v m s d sp) 25) = u1 at *
  go_wp2_with (first
    | (go_at_call 4; refine (KN.out _).mono ?_; rintro e uk ⟨rfl, hbk⟩))
  go_ret
  exact ⟨rfl, HM1.out.trans (hbk.mono HM1.out.size)⟩
/-- What is unwrapped of what was wrapped. -/
theorem unw_back {v : Bool} {m : Int} {s d : Nat → Int} {sp : Int} {n : Nat} {f g : Nat → Int} (h : Wd v m s d sp n f g) (hT : wrN v m + n ≤ 1646) (U : Option Addr) (cu : Nat) (h1 : wrN v m + n ≤ cu) (h2 : cu ≤ 9223372036854775807) (W : World) (hr : Rd W W.heap.size U (wrN v m + n) g) :
    Calls Try.prog 6 #[.bool v, .slice U (wrN v m + n) cu] W fun e w' => ∃ I ic, e = .returned (.tuple #[.agg (outc v m s d sp), .slice I n ic, .int .i64 0]) ∧ Rd w' w'.heap.size I n f ∧ Below W.heap.size W w' := by
  refine (unw_any v U _ cu g h.byt (by omega) h1 h2 W hr).mono ?_
  rintro e w' (⟨h1, _⟩ | ⟨_, I, ic, rfl, _, _, hf, hb⟩)
  · exact absurd h.ok h1
  · refine ⟨I, ic, ?_, ?_, hb⟩
    · rw [h.mode, h.port, h.len, out_ext v m sp h.src h.dst]
    · rw [h.len] at hf
      exact hf.rd.same fun k _ => by
        rw [(h.alt g h.byt fun _ _ => rfl).2 k, h.low]
/-- .. of bytes that begin like it. -/
theorem unw_like {v : Bool} {m : Int} {s d : Nat → Int} {sp : Int} {n : Nat} {f g : Nat → Int} (h : Wd v m s d sp n f g) (hT : wrN v m + n ≤ 1646) (y : Nat → Int) (hy : Byt y) (he : ∀ k, k < wrN v m → y k = g k) (U : Option Addr) (cu : Nat) (h1 : wrN v m + n ≤ cu) (h2 : cu ≤ 9223372036854775807) (W : World) (hr : Rd W W.heap.size U (wrN v m + n) y) :
    Calls Try.prog 6 #[.bool v, .slice U (wrN v m + n) cu] W fun e w' => ((∃ E, E ≠ 0 ∧ e = .returned (.tuple #[.agg outz, .slice none 0 0, .int .i64 E])) ∨ ∃ C I ic, e = .returned (.tuple #[.agg C, .slice I n ic, .int .i64 0]) ∧ Rd w' w'.heap.size I n (fun k => y (wrN v m + k))) ∧ Below W.heap.size W w' := by
  refine (unw_any v U _ cu y hy (by omega) h1 h2 W hr).mono ?_
  obtain ⟨q1, q2⟩ := h.alt y hy he
  rintro e w' (⟨h1, rfl, hb⟩ | ⟨_, I, ic, rfl, _, _, hf, hb⟩)
  · exact ⟨.inl ⟨_, h1, rfl⟩, hb⟩
  · rw [q1] at hf ⊢
    exact ⟨.inr ⟨_, I, ic, rfl, hf.rd.same fun k _ => (q2 k).symm⟩, hb⟩
theorem wrN_lo (v : Bool) (m : Int) : 20 ≤ wrN v m := by
  unfold wrN ipN
  split <;> split <;> omega
set_option maxHeartbeats 4000000 in
theorem eback_any (v : Bool) (m : Int) (s d : Nat → Int) (sp : Int) (hs : Byt s) (hd : Byt d) (hsp : 0 ≤ sp ∧ sp ≤ 65535) (A : Option Addr) (n c : Nat) (f : Nat → Int) (hf : Byt f) (hn : n ≤ 1700) (hcap : n ≤ c) (hc9 : c ≤ 9223372036854775807) (a x : Int) (hx : 0 ≤ x ∧ x ≤ 255) (w : World) (hr : Rd w w.heap.size A n f) :
    Calls Try.prog 3 #[.agg (outc v m s d sp), .slice A n c, .int .i64 a, .int .u8 x] w fun e w' => e = .returned (.bool true) ∧ Below w.heap.size w w' := by
  have KN := Lib.hid eknown_any
  have HR := Lib.hid hr
  have HF := Lib.hid hf
  have HW := Lib.hid fun W hr => wrap_any v m s d hs hd sp hsp A n c f hf (by omega) W hr
  have HWE : Hid (wrE v m s d sp n f = 0 → wrN v m + n ≤ 1646) := Lib.hid fun h => by
    unfold wrE at h
    split at h
    · cases h
    split at h
    · cases h
    split at h
    · cases h
    · omega
  unfold WrO at HW
  have g1 : ¬ (1700 : Int) < (n : Int) := by omega
  have HX := Lib.hid hx
  clear hr hf hx hs hd hsp
  have HM1 : Hid (Mem w (w.alloc (.cells (outc v m s d sp) 25)) [(w.heap.size, .cells (outc v m s d sp) 25 (0, 0))]) := Lib.hid ((Mem.nil w).alloc (.cells (outc v m s d sp) 25))
  obtain ⟨E, hE⟩ : ∃ E, E = wrE v m s d sp n f := ⟨_, rfl⟩
  rw [← hE] at HW HWE
  clear hE
  go_enter Try.func3, Try.ntmps3
  go_upto_if 17 with fail
  change Code.wp _ _ _ _ (w.alloc (.cells (outc v m s d sp) 25))
  generalize w.alloc (.cells (outc v m s d sp) 25) = u1 at *
  go_wp2_with (first
    | (refine wpList_load_row rfl 25 (.tmp 4) rfl w.heap.size rfl 25 (outc v m s d sp) (0, 0) _ (HM1.out.get 0 rfl) Try.underlying25 rfl (by kernel_rfl) ?_))
  go_at_call 5
  refine (HW.out u1 (HM1.out.rd HR.out)).mono ?_
  rintro e u2 (⟨hE, rfl, hb⟩ | ⟨hE, g, hwd, U, cu, rfl, ho, hb⟩)
  · have hne' : (E != 0) = true := by simpa using hE
    have HB : Hid (Below w.heap.size w u2) := Lib.hid (HM1.out.below.trans (hb.mono HM1.out.below.size))
    clear hb HM1 HW
    go_wp2_with (first
      | (go_at_call 4; refine (KN.out _).mono ?_; rintro e uk ⟨rfl, hbk⟩))
    go_ret
    exact ⟨rfl, HB.out.trans (hbk.mono HB.out.size)⟩
  · subst hE
    have hT := HWE.out rfl
    have HO2 : Hid (MO w u2 [(w.heap.size, .cells (outc v m s d sp) 25 (0, 0))] u1.heap.size U (wrN v m + n) cu g) := Lib.hid (MO.start HM1.out hb ho)
    have HWD := Lib.hid hwd
    have hlo := wrN_lo v m
    clear hb ho hwd HM1 HW HWE
    have HUN : Hid (∀ U cu W, wrN v m + n ≤ cu → cu ≤ 9223372036854775807 → Rd W W.heap.size U (wrN v m + n) g → Calls Try.prog 6 #[.bool v, .slice U (wrN v m + n) cu] W fun e w' => ∃ I ic, e = .returned (.tuple #[.agg (outc v m s d sp), .slice I n ic, .int .i64 0]) ∧ Rd w' w'.heap.size I n f ∧ Below W.heap.size W w') := Lib.hid fun U cu W h1 h2 hr => unw_back HWD.out hT U cu h1 h2 W hr
    have HUL : Hid (∀ y, Byt y → (∀ k, k < wrN v m → y k = g k) → ∀ U cu W, wrN v m + n ≤ cu → cu ≤ 9223372036854775807 → Rd W W.heap.size U (wrN v m + n) y → Calls Try.prog 6 #[.bool v, .slice U (wrN v m + n) cu] W fun e w' => ((∃ E, E ≠ 0 ∧ e = .returned (.tuple #[.agg outz, .slice none 0 0, .int .i64 E])) ∨ ∃ C I ic, e = .returned (.tuple #[.agg C, .slice I n ic, .int .i64 0]) ∧ Rd w' w'.heap.size I n (fun k => y (wrN v m + k))) ∧ Below W.heap.size W w') := Lib.hid fun y hy he U cu W h1 h2 hr => unw_like HWD.out hT y hy he U cu h1 h2 W hr
    have HLOW : Hid (∀ k, g (wrN v m + k) = f k) := Lib.hid HWD.out.low
    have HGB : Hid (Byt g) := Lib.hid HWD.out.byt
    clear HWD
    obtain ⟨N0, hN0⟩ : ∃ N, N = wrN v m := ⟨_, rfl⟩
    rw [← hN0] at HUN HUL HLOW HO2 hT hlo ⊢
    clear hN0
    obtain ⟨T, hTT⟩ : ∃ T, T = N0 + n := ⟨_, rfl⟩
    rw [← hTT] at HUN HUL HO2 hT ⊢
    have HTT := Lib.hid hTT
    clear hTT
    have x0 : u2.cell? ⟨w.heap.size, 0, none⟩ = some (.bool v) := blk_cell (HO2.out.mem.get 0 rfl) 0
    go_wp2_with fail
    go_at_call 6
    refine (HUN.out U cu u2 HO2.out.own.cap HO2.out.own.cap_le HO2.out.own.rd).mono ?_
    rintro e u3 ⟨I, ic, rfl, hi, hb⟩
    have HO3 := Lib.hid (HO2.out.step hb)
    have HI3 := Lib.hid hi
    clear hb hi HO2 x0
    have HN : Hid ((u3.alloc (.cells outz 25)).heap[u3.heap.size]? = some (.cells outz 25 (0, 0))) := heap_alloc_new u3 _
    have HB34 : Hid (Below u3.heap.size u3 ((u3.alloc (.cells outz 25)).setRow u3.heap.size (outc v m s d sp))) := below_setRow (below_alloc u3 _) (Nat.le_refl _) _
    have HP4 : Hid (((u3.alloc (.cells outz 25)).setRow u3.heap.size (outc v m s d sp)).heap[u3.heap.size]? = some (.cells (outc v m s d sp) 25 (0, 0))) := setRow_heap _ _ _ (outc v m s d sp) _ _ HN.out
    go_upto_region 7 with (first
      | (refine wpList_store_row rfl 25 (.tmp 11) (.tmp 38) rfl u3.heap.size (outc v m s d sp) rfl rfl 25 outz HN.out (by kernel_rfl) rfl (out_one ..) ?_))
    change Code.wp _ _ _ _ ((u3.alloc (.cells outz 25)).setRow u3.heap.size (outc v m s d sp))
    have HO4 := Lib.hid (HO3.out.step HB34.out)
    have HI4 : Hid (Rd ((u3.alloc (.cells outz 25)).setRow u3.heap.size (outc v m s d sp)) ((u3.alloc (.cells outz 25)).setRow u3.heap.size (outc v m s d sp)).heap.size I n f) := Lib.hid ((HI3.out.keep HB34.out).more HB34.out.size)
    obtain ⟨q, hq⟩ : ∃ q, q = u3.heap.size := ⟨_, rfl⟩
    rw [← hq] at HO4 HI4 HP4 ⊢
    clear hq HN HB34 HO3 HI3
    generalize (u3.alloc (.cells outz 25)).setRow q (outc v m s d sp) = u4 at *
    have HR4 : Hid (Rd u4 u4.heap.size A n f) := Lib.hid (HO4.out.mem.rd HR.out)
    have hv1 := run_convert_rd (P := Try.prog) HI4.out 26 5 9 ic Try.underlying26 Try.underlying5 Try.underlying9
    have hv2 := run_convert_rd (P := Try.prog) HR4.out 26 5 9 c Try.underlying26 Try.underlying5 Try.underlying9
    obtain ⟨S3, hS3⟩ : ∃ S, S = strOfNums (nums n f) := ⟨_, rfl⟩
    rw [← hS3] at hv1 hv2
    have HS3 := Lib.hid hS3
    have heq := eqO v m s d sp
    have cT : ¬ (1646 : Int) < (T : Int) := by omega
    have cN : ¬ (T : Int) ≤ (n : Int) := by have := HTT.out; omega
    clear hS3
    go_upto_region 9 with (first
      | (refine wpList_load_roww rfl 25 (.tmp 11) rfl q rfl 25 (outc v m s d sp) (0, 0) _ HP4.out Try.underlying25 rfl (by kernel_rfl) ?_)
      | (refine wpList_load_roww rfl 25 (.tmp 4) rfl w.heap.size rfl 25 (outc v m s d sp) (0, 0) _ (HO4.out.mem.get 0 rfl) Try.underlying25 rfl (by kernel_rfl) ?_))
    clear hv1 hv2 heq cT cN HP4 HI4
    obtain ⟨j, hj, hjr⟩ := at_in8 a T (by have := HTT.out; omega) hT
    have z1 : IntKind.u64.wrap (T : Int) = (T : Int) := by simp only [IntKind.wrap_u64]; omega
    have z2 : IntKind.u64.wrap (j : Int) = (j : Int) := by simp only [IntKind.wrap_u64]; omega
    have z3 : IntKind.i64.wrap (j : Int) = (j : Int) := by rw [IntKind.wrap_i64]; omega
    have z4 : (T : Int) ≠ 0 := by have := HTT.out; omega
    go_upto_region 10 with fail
    clear z1 z2 z3 z4 hjr
    have zw : IntKind.i64.wrap ((T : Int) - (n : Int)) = (T : Int) - (n : Int) := by rw [IntKind.wrap_i64]; omega
    by_cases cj : j < N0
    · have cj' : ¬ (T : Int) - (n : Int) ≤ (j : Int) := by have := HTT.out; omega
      have HB : Hid (Below w.heap.size w u4) := Lib.hid HO4.out.below
      clear cj
      go_wp2_with (first
        | (go_at_call 4; refine (KN.out _).mono ?_; rintro e uk ⟨rfl, hbk⟩))
      go_ret
      exact ⟨rfl, HB.out.trans (hbk.mono HB.out.size)⟩
    · have cj' : (T : Int) - (n : Int) ≤ (j : Int) := by have := HTT.out; omega
      obtain ⟨jj, hjj⟩ : ∃ jj, jj = j - N0 := ⟨_, rfl⟩
      have HJJ : Hid (j = N0 + jj ∧ jj < n) := Lib.hid (by have := HTT.out; omega)
      obtain ⟨y, hy, hy0, hy1, hyx⟩ := xor_u8 (g j) x (HGB.out j) HX.out
      have HYZ : Hid (x = 0 → y = g j) := Lib.hid fun h => by
        rw [h, xor_zero _ (HGB.out j)] at hy
        exact hy.symm
      obtain ⟨b0, rfl⟩ := HO4.out.at_ (by have := HTT.out; omega)
      obtain ⟨c1, c2⟩ := HO4.out.cells j hj
      have i0 : (0 : Int) ≤ (j : Int) := by omega
      have i1 : (j : Int) < (T : Int) := by omega
      have i2 : ((j : Int)).toNat = j := by omega
      have HO5 : Hid (MO w (u4.setCell ⟨b0, j, none⟩ (.int .u8 y)) [(w.heap.size, .cells (outc v m s d sp) 25 (0, 0))] u1.heap.size (some ⟨b0, 0, none⟩) T cu (upd g j y)) := Lib.hid (HO4.out.set (by have := HTT.out; omega) j y)
      have HYB : Hid (Byt (upd g j y)) := Lib.hid (upd_byt HGB.out j ⟨hy0, hy1⟩)
      have HYX := Lib.hid hyx
      clear cj hjj hy0 hy1 hyx
      go_upto_region 12 with fail
      clear c1 c2 i0 i1 i2 hy zw cj' HO4 HR4
      generalize u4.setCell ⟨b0, j, none⟩ (.int .u8 y) = u5 at *
      have x0 : u5.cell? ⟨w.heap.size, 0, none⟩ = some (.bool v) := blk_cell (HO5.out.mem.get 0 rfl) 0
      by_cases cx : x = 0
      · have HYG : Hid (upd g j y = g) := Lib.hid (by
          funext k
          unfold upd
          by_cases ck : k = j
          · rw [if_pos ck, HYZ.out cx, ck]
          · rw [if_neg ck])
        have kx : (x == 0) = true := by simp [cx]
        rw [HYG.out] at HO5
        clear HYG HYZ HYX HYB HUL cx
        go_wp2_with fail
        go_at_call 6
        refine (HUN.out _ cu u5 HO5.out.own.cap HO5.out.own.cap_le HO5.out.own.rd).mono ?_
        rintro e u6 ⟨I6, ic6, rfl, hi, hb⟩
        have HO6 := Lib.hid (HO5.out.step hb)
        have HR6 : Hid (Rd u6 u6.heap.size A n f) := Lib.hid (HO6.out.mem.rd HR.out)
        have hv1 := run_convert_rd (P := Try.prog) hi 26 5 9 ic6 Try.underlying26 Try.underlying5 Try.underlying9
        have hv2 := run_convert_rd (P := Try.prog) HR6.out 26 5 9 c Try.underlying26 Try.underlying5 Try.underlying9
        rw [← HS3.out] at hv1 hv2
        have HB : Hid (Below w.heap.size w u6) := Lib.hid HO6.out.below
        clear hi hb HO5 HO6 HUN x0
        go_wp2_with (first
          | (go_at_call 4; refine (KN.out _).mono ?_; rintro e uk ⟨rfl, hbk⟩))
        go_ret
        exact ⟨rfl, HB.out.trans (hbk.mono HB.out.size)⟩
      · have kx : (x == 0) = false := by simp [cx]
        have HNE := Lib.hid (HYX.out cx)
        clear HYZ HYX HUN cx
        go_wp2_with fail
        go_at_call 6
        refine (HUL.out (upd g j y) HYB.out (fun k hk => by unfold upd; rw [if_neg (by have := HJJ.out; omega)]) _ cu u5 HO5.out.own.cap HO5.out.own.cap_le HO5.out.own.rd).mono ?_
        rintro e u6 ⟨⟨E6, hE6, rfl⟩ | ⟨C6, I6, ic6, rfl, hi⟩, hb⟩
        · have HB : Hid (Below w.heap.size w u6) := Lib.hid ((HO5.out.step hb).below)
          have k6 : (E6 == 0) = false := by simpa using hE6
          clear hb HO5 HUL x0 hE6
          go_wp2_with (first
            | (go_at_call 4; refine (KN.out _).mono ?_; rintro e uk ⟨rfl, hbk⟩))
          go_ret
          exact ⟨rfl, HB.out.trans (hbk.mono HB.out.size)⟩
        · have HO6 := Lib.hid (HO5.out.step hb)
          have HR6 : Hid (Rd u6 u6.heap.size A n f) := Lib.hid (HO6.out.mem.rd HR.out)
          have hv1 := run_convert_rd (P := Try.prog) hi 26 5 9 ic6 Try.underlying26 Try.underlying5 Try.underlying9
          have hv2 := run_convert_rd (P := Try.prog) HR6.out 26 5 9 c Try.underlying26 Try.underlying5 Try.underlying9
          rw [← HS3.out] at hv2
          have hne : strOfNums (nums n fun k => upd g j y (N0 + k)) ≠ S3 := by
            rw [HS3.out]
            refine str_ne HF.out (fun k => HYB.out _) jj HJJ.out.2 ?_
            show upd g j y (N0 + jj) ≠ f jj
            rw [← HLOW.out jj, ← HJJ.out.1]
            unfold upd
            rw [if_pos rfl]
            exact HNE.out
          obtain ⟨S4, hS4⟩ : ∃ S, S = strOfNums (nums n fun k => upd g j y (N0 + k)) := ⟨_, rfl⟩
          rw [← hS4] at hv1 hne
          have kS := ba_ne hne
          have HB : Hid (Below w.heap.size w u6) := Lib.hid HO6.out.below
          clear hi hb HO5 HO6 HUL x0 hS4
          go_wp2_with (first
            | (go_at_call 4; refine (KN.out _).mono ?_; rintro e uk ⟨rfl, hbk⟩))
          go_ret
          exact ⟨rfl, HB.out.trans (hbk.mono HB.out.size)⟩
end Go.Proofs.Ythjgecdnlpdcdaa
/- What every law's proof ends with, over any program: the call answered true and turned nothing that was there: so the arguments read as they did. And how a slice of bytes that came in is opened. -/
namespace Go.Proofs.Ythjgecdnlpdcdaa
open Go.ChangeShapes Go.WideShapes Go.ChangeAt Go.RowKit

section
variable {H : Type} {enc : TypeId × Value → H} {P : Program}

theorem trodAll_kept (hl : laidOutB P = true) {W W' : World} (hb : Below W.heap.size W W') (sp : Nat → Bool) :
    ∀ (ts : List TypeId) (vs : List Value) (ds : List (DataW H)) (ps : List MemPlace), (∀ t ∈ ts, P.readableRec t = true ∧ t < P.types.size) →
      DataW.TrodAll enc P W 0 (fun _ => true) true ts vs ds ps → (∀ x ∈ ps, x.block < W.heap.size) → (∀ x ∈ ps, sp x.block = true) → DataW.TrodAll enc P W' 0 sp true ts vs ds ps
  | [], _, _, _, _, h, _, _ => by
    obtain ⟨rfl, rfl, rfl⟩ := trodAll_nil h
    exact trodAll_mk0
  | t :: ts, _, _, _, hr, h, hlt, hsp => by
    obtain ⟨v, vs1, d, ds1, a, b, rfl, rfl, rfl, h1, h2⟩ := trodAll_cons h
    have h3 := WideElems.Trod_stays (sp' := sp) hl (hr t (by simp)).1 (hr t (by simp)).2 h1 (fun x hx => hb.same (hlt x (by simp [hx]))) (fun x hx => hsp x (by simp [hx]))
    exact trodAll_cons_mk h3 (trodAll_kept hl hb sp ts vs1 ds1 b (fun t ht => hr t (by simp [ht])) h2 (fun x hx => hlt x (by simp [hx])) (fun x hx => hsp x (by simp [hx])))

/-- The row's last step: true, the arguments as they were, of memory that was there nothing turned. -/
theorem law_post {f : Func} {s : ChangeSpec} {apart fresh handsOn again : Bool} {W W' : World} {args : Array Value} {tb : TypeId} {ds : List (DataW H)} {before : List MemPlace}
    (hW : DataW.Whole enc P f.params.toList s.vars apart W args.toList ds [] before) (hb : Below W.heap.size W W') (hl : laidOutB P = true) (hvars : s.vars = [])
    (hr : f.params.toList.all (fun t => P.readableRec t && decide (t < P.types.size)) = true) (hres : f.resultTypes = #[tb]) (htb : P.underlying tb = some .bool)
    (hs : s.fn H (ds ++ []) = { results := [.lit (.bool true)], args := ds }) :
    s.post enc P f apart fresh handsOn again W args (.bool true) W' := by
  have hr' : ∀ t ∈ f.params.toList, P.readableRec t = true ∧ t < P.types.size := fun t ht => by
    have := List.all_eq_true.1 hr t ht
    simpa using this
  have hlt : ∀ p ∈ before, p.block < W.heap.size := fun p hp => hW.lt p hp
  have hold : ∀ p ∈ before, (fun b => decide (b < W.heap.size)) p.block = true := fun p hp => by simpa using hlt p hp
  obtain ⟨p, q, hA, hV, hpq, hz, hn⟩ := id hW
  rw [hvars] at hV
  obtain ⟨_, rfl⟩ := trodVars_none hV
  rw [List.append_nil] at hpq
  subst hpq
  have hargs : ∀ sp : Nat → Bool, (∀ x ∈ before, sp x.block = true) → DataW.TrodAll enc P W' 0 sp true f.params.toList args.toList ds before := fun sp hsp => trodAll_kept hl hb sp _ _ _ _ hr' hA hlt hsp
  have hvs : ∀ sp : Nat → Bool, DataW.TrodVars enc P W' sp s.vars ([] : List (DataW H)) [] := fun sp => by rw [hvars]; exact rfl
  have hrs : ∀ (b : Nat) (sp : Nat → Bool) (hd : Bool), DataW.TrodAll enc P W' b sp hd f.resultTypes.toList ((Value.bool true).resultList f.resultTypes.size) [.lit (.bool true)] [] := fun b sp hd => by
    rw [hres]
    exact trodAll_cons_mk (shut_bool htb true) trodAll_mk0
  refine ⟨ds, [], before, [], before, [], hW, ?_, ?_, ?_, World.keptBut_mono (fun x hx => ⟨hx, Or.inr (Or.inl hx)⟩) (hb.frame (· ∈ before)), fun _ => ⟨?_, [.lit (.bool true)] ++ ds, [], before, ?_, fun x hx _ => hx⟩⟩
  · rw [hs]; exact hrs _ _ _
  · rw [hs]; exact hargs _ hold
  · rw [hs]; exact hvs _
  · exact ok_one hres rfl (okWide_bool_mk htb true)
  · refine ⟨before, [], trodAll_append (hargs _ (fun _ _ => rfl)) (hrs _ _ _), hvs _, by simp, ?_, hn⟩
    intro b off hp
    rw [hb.frozen (p := ⟨b, off, none⟩) (hlt _ hp)]
    exact hz b off hp

/-- A slice of bytes that came in. -/
theorem open_rd {W : World} {r : Reach} {b0 : Nat} {t e : TypeId} {v : Value} {d : DataW H} {p : List MemPlace} (ht : P.underlying t = some (.slice e)) (he : P.underlying e = some (.int .u8)) (hc : P.cellsOf e = 1)
    (hv : Value.okWide P W r b0 t v) (h : DataW.Trod enc P W 0 (fun _ => true) true t v d p) :
    ∃ A n c f, v = .slice A n c ∧ n ≤ c ∧ c ≤ maxLen ∧ Byt f ∧ Rd W W.heap.size A n f := by
  obtain ⟨a0, len, cap, rfl⟩ := okWide_slice ht hv
  obtain ⟨fuel, hf⟩ := h
  rcases open_ints ht he hc hf with ⟨hcs, _⟩ | ⟨a, len', cap', zs, hcs, _, hl, hm, hz, _, hcell, hwz⟩
  · simp [Value.cells] at hcs
    obtain ⟨rfl, rfl, rfl⟩ := hcs
    exact ⟨none, 0, 0, fun _ => 0, rfl, Nat.le_refl _, Nat.zero_le _, fun _ => ⟨Int.le_refl 0, (by decide : (0 : Int) ≤ 255)⟩, .inl rfl⟩
  · simp [Value.cells] at hcs
    obtain ⟨rfl, rfl, rfl⟩ := hcs
    simp only [if_true] at hz
    refine ⟨some a, len, cap, fun k => zs.getD k 0, rfl, hl, hm, fun k => ?_, ?_⟩
    · by_cases hk : k < zs.length
      · have hm := hwz (zs.getD k 0) (by simp [List.getD, hk])
        simpa [Lit.wf, IntKind.min, IntKind.max, IntKind.signed, IntKind.bits] using hm
      · have e0 : zs.getD k 0 = 0 := by simp [List.getD, hk]
        show 0 ≤ zs.getD k 0 ∧ zs.getD k 0 ≤ 255
        omega
    · rcases Nat.eq_zero_or_pos len with h0 | h0
      · exact .inl h0
      · obtain ⟨b, off, spot⟩ := a
        have hspot : spot = none := by simpa [Addr.add] using World.cell?_spot (hcell 0 (by omega))
        subst hspot
        have hlt := World.block_lt_of_cell? W _ (hcell 0 (by omega))
        exact .inr ⟨b, off, rfl, by simpa [Addr.add] using hlt, fun k hk => by rw [← add_plain]; exact hcell k (by omega)⟩

/-- An array of bytes that came in. -/
theorem open_bytes_arr {W : World} {r : Reach} {b0 n : Nat} {t e : TypeId} {v : Value} {d : DataW H} {p : List MemPlace} (ht : P.underlying t = some (.array n e)) (he : P.underlying e = some (.int .u8)) (hc : P.cellsOf e = 1) (hC : P.cellsOf t = n)
    (hv : Value.okWide P W r b0 t v) (h : DataW.Trod enc P W 0 (fun _ => true) true t v d p) : ∃ f, Byt f ∧ v = .agg ((nums n f).map (Value.int .u8)).toArray := by
  have hv' : ∃ cs, v = .agg cs ∧ cs.size = P.cellsOf t := by
    simp only [Value.okWide, ht] at hv
    obtain ⟨cs, h1, h2, _⟩ := hv
    exact ⟨cs, h1, h2⟩
  obtain ⟨cs, rfl, hsz⟩ := hv'
  rw [hC] at hsz
  obtain ⟨fuel, hf⟩ := h
  obtain ⟨xs, m, _, _, _, hl, hg⟩ := DataW.trod_array ht hf
  have each : ∀ k, k < n → ∃ x, cs[k]? = some (.int .u8 x) ∧ 0 ≤ x ∧ x ≤ 255 := by
    intro k hk
    have e1 := hg k hk
    rw [hc, Nat.mul_one] at e1
    have hx : xs[k]? = some (xs[k]'(by omega)) := List.getElem?_eq_getElem (by omega)
    rw [hx] at e1
    obtain ⟨x, e2, _, e3⟩ := DataW.trod_int he e1
    have hlen : k < cs.toList.length := by simpa [hsz] using hk
    have e4 : ((Value.agg cs).cells.toList.drop k).take 1 = [cs.toList[k]] := by
      simp only [Value.cells]
      rw [List.drop_eq_getElem_cons hlen]
      rfl
    rw [e4] at e2
    have e5 : cs.toList[k] = .int .u8 x := by simpa using e2
    refine ⟨x, ?_, by simpa [Lit.wf, IntKind.min, IntKind.max, IntKind.signed, IntKind.bits] using e3⟩
    rw [← Array.getElem?_toList, List.getElem?_eq_getElem hlen, e5]
  refine ⟨fun k => match cs[k]? with | some (.int .u8 x) => x | _ => 0, fun k => ?_, ?_⟩
  · show 0 ≤ (match cs[k]? with | some (.int .u8 x) => x | _ => (0 : Int)) ∧ (match cs[k]? with | some (.int .u8 x) => x | _ => (0 : Int)) ≤ 255
    by_cases hk : k < n
    · obtain ⟨x, e1, e2⟩ := each k hk
      rw [e1]
      exact e2
    · have e1 : cs[k]? = none := by simp [hsz]; omega
      rw [e1]
      exact ⟨Int.le_refl 0, (by decide : (0 : Int) ≤ 255)⟩
  · congr 1
    refine Array.ext_getElem? fun k => ?_
    by_cases hk : k < n
    · obtain ⟨x, e1, _⟩ := each k hk
      rw [e1]
      simp [nums, List.getElem?_map, List.getElem?_range hk, e1]
    · have e1 : cs[k]? = none := by simp [hsz]; omega
      rw [e1]
      symm
      exact Array.getElem?_eq_none (by rw [List.size_toArray, List.length_map, nums_len]; omega)
end
end Go.Proofs.Ythjgecdnlpdcdaa
/- How arguments are opened field by field, over any program: arrays of bytes, numbers, flags, slices of bytes, a struct's cells. -/
namespace Go.Proofs.Ythjgecdnlpdcdaa
open Go.ChangeShapes Go.WideShapes Go.ChangeAt Go.RowKit
section
variable {H : Type} {enc : TypeId × Value → H} {P : Program}
/-- The cells of an array of bytes. -/
theorem trod_bytes {W : World} {b n m : Nat} {t e : TypeId} {sp : Nat → Bool} {hd : Bool} {cs : List Value} {y : DataW H × List MemPlace} (ht : P.underlying t = some (.array n e)) (he : P.underlying e = some (.int .u8)) (hc : P.cellsOf e = 1) (hC : P.cellsOf t = n)
    (h : DataW.trod enc P W b sp hd m t cs = some y) : ∃ f, Byt f ∧ cs = (nums n f).map (Value.int .u8) := by
  obtain ⟨xs, m', _, _, hlen, hl, hg⟩ := DataW.trod_array ht h
  rw [hC] at hlen
  have each : ∀ k, k < n → ∃ x, cs[k]? = some (.int .u8 x) ∧ 0 ≤ x ∧ x ≤ 255 := by
    intro k hk
    have e1 := hg k hk
    rw [hc, Nat.mul_one] at e1
    have hx : xs[k]? = some (xs[k]'(by omega)) := List.getElem?_eq_getElem (by omega)
    rw [hx] at e1
    obtain ⟨x, e2, _, e3⟩ := DataW.trod_int he e1
    have hk' : k < cs.length := by omega
    have e4 : (cs.drop k).take 1 = [cs[k]] := by
      rw [List.drop_eq_getElem_cons hk']
      rfl
    rw [e4] at e2
    have e5 : cs[k] = .int .u8 x := by simpa using e2
    refine ⟨x, ?_, by simpa [Lit.wf, IntKind.min, IntKind.max, IntKind.signed, IntKind.bits] using e3⟩
    rw [List.getElem?_eq_getElem hk', e5]
  refine ⟨fun k => match cs[k]? with | some (.int .u8 x) => x | _ => 0, fun k => ?_, ?_⟩
  · show 0 ≤ (match cs[k]? with | some (.int .u8 x) => x | _ => (0 : Int)) ∧ (match cs[k]? with | some (.int .u8 x) => x | _ => (0 : Int)) ≤ 255
    by_cases hk : k < n
    · obtain ⟨x, e1, e2⟩ := each k hk
      rw [e1]
      exact e2
    · have e1 : cs[k]? = none := List.getElem?_eq_none (by omega)
      rw [e1]
      exact ⟨Int.le_refl 0, (by decide : (0 : Int) ≤ 255)⟩
  · refine List.ext_getElem? fun k => ?_
    by_cases hk : k < n
    · obtain ⟨x, e1, _⟩ := each k hk
      rw [e1]
      simp [nums, List.getElem?_map, List.getElem?_range hk, e1]
    · rw [List.getElem?_eq_none (by omega), List.getElem?_eq_none (by rw [List.length_map, nums_len]; omega)]
/-- The cell of a number. -/
theorem trod_num {W : World} {b m : Nat} {t : TypeId} {k : IntKind} {sp : Nat → Bool} {hd : Bool} {cs : List Value} {y : DataW H × List MemPlace} (ht : P.underlying t = some (.int k))
    (h : DataW.trod enc P W b sp hd m t cs = some y) : ∃ x, cs = [.int k x] ∧ (Lit.int k x).wf = true := by
  obtain ⟨x, e2, _, e3⟩ := DataW.trod_int ht h
  exact ⟨x, e2, e3⟩
/-- A struct's cells, field by field. -/
theorem open_fields {W : World} {r : Reach} {b0 : Nat} {t : TypeId} {fs : Array Field} {v : Value} {d : DataW H} {p : List MemPlace} (ht : P.underlying t = some (.struct fs)) (hv : Value.okWide P W r b0 t v) (h : DataW.Trod enc P W 0 (fun _ => true) true t v d p) :
    ∃ cs : Array Value, v = .agg cs ∧ cs.size = P.cellsOf t ∧ ∀ (i : Nat) (f : Field), fs[i]? = some f → ∃ m y, DataW.trod enc P W 0 (fun _ => true) true m f.type ((cs.toList.drop f.offset).take (P.cellsOf f.type)) = some y := by
  obtain ⟨cs, rfl, hsz⟩ := okWide_struct ht hv
  obtain ⟨fuel, hf⟩ := h
  obtain ⟨xs, n, _, _, _, hl, hg⟩ := DataW.trod_struct ht hf
  refine ⟨cs, rfl, hsz, fun i f hi => ?_⟩
  have e := hg i f hi
  have hlt : i < fs.size := by
    rcases Nat.lt_or_ge i fs.size with hlt | hge
    · exact hlt
    · rw [Array.getElem?_eq_none hge] at hi; cases hi
  rw [List.getElem?_eq_getElem (show i < xs.length by omega)] at e
  exact ⟨n, _, e⟩
/-- The cell of a Bool. -/
theorem trod_flag {W : World} {b m : Nat} {t : TypeId} {sp : Nat → Bool} {hd : Bool} {cs : List Value} {y : DataW H × List MemPlace} (ht : P.underlying t = some .bool)
    (h : DataW.trod enc P W b sp hd m t cs = some y) : ∃ x, cs = [.bool x] := by
  obtain ⟨x, e, _⟩ := DataW.trod_bool ht h
  exact ⟨x, e⟩
/-- The cell of a slice of bytes. -/
theorem trod_rd {W : World} {m : Nat} {t e : TypeId} {cs : List Value} {y : DataW H × List MemPlace} (ht : P.underlying t = some (.slice e)) (he : P.underlying e = some (.int .u8)) (hc : P.cellsOf e = 1)
    (h : DataW.trod enc P W 0 (fun _ => true) true m t cs = some y) : ∃ A n c f, cs = [.slice A n c] ∧ n ≤ c ∧ c ≤ maxLen ∧ Byt f ∧ Rd W W.heap.size A n f := by
  rcases open_ints ht he hc h with ⟨hcs, _⟩ | ⟨a, len, cap, zs, hcs, _, hl, hm, hz, _, hcell, hwz⟩
  · exact ⟨none, 0, 0, fun _ => 0, hcs, Nat.le_refl _, Nat.zero_le _, fun _ => ⟨Int.le_refl 0, (by decide : (0 : Int) ≤ 255)⟩, .inl rfl⟩
  · simp only [if_true] at hz
    refine ⟨some a, len, cap, fun k => zs.getD k 0, hcs, hl, hm, fun k => ?_, ?_⟩
    · by_cases hk : k < zs.length
      · have hm := hwz (zs.getD k 0) (by simp [List.getD, hk])
        simpa [Lit.wf, IntKind.min, IntKind.max, IntKind.signed, IntKind.bits] using hm
      · have e0 : zs.getD k 0 = 0 := by simp [List.getD, hk]
        show 0 ≤ zs.getD k 0 ∧ zs.getD k 0 ≤ 255
        omega
    · rcases Nat.eq_zero_or_pos len with h0 | h0
      · exact .inl h0
      · obtain ⟨b, off, spot⟩ := a
        have hspot : spot = none := by simpa [Addr.add] using World.cell?_spot (hcell 0 (by omega))
        subst hspot
        have hlt := World.block_lt_of_cell? W _ (hcell 0 (by omega))
        exact .inr ⟨b, off, rfl, by simpa [Addr.add] using hlt, fun k hk => by rw [← add_plain]; exact hcell k (by omega)⟩
end
end Go.Proofs.Ythjgecdnlpdcdaa
