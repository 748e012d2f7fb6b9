/- Layer 6: Write, the program's. -/
import Derived.Test.YtfaelihfjmaekaaIg
import Derived.Test.YtfaelihfjmaekaaMo
namespace Go.Proofs.Ytfaelihfjmaekaa
open Go.RowKit
def arr4 (f : Nat → Int) : Array Value := #[.int .u8 (f 0), .int .u8 (f 1), .int .u8 (f 2), .int .u8 (f 3)]
theorem arr4_eq (f : Nat → Int) : ((nums 4 f).map (Value.int .u8)).toArray = arr4 f := rfl
theorem arr4_get (f : Nat → Int) (k : Nat) (hk : k < 4) : (arr4 f)[0 + k]? = some (.int .u8 (f k)) := by
  match k, hk with
  | 0, _ => rfl
  | 1, _ => rfl
  | 2, _ => rfl
  | 3, _ => rfl
theorem icX_0 {v6 : Bool} {kind : Int} {n : Nat} (h : errK v6 kind = false) : icX v6 kind n = 10 := by unfold icX; rw [if_pos h]
theorem icX_1 {v6 : Bool} {kind : Int} {n : Nat} (h : errK v6 kind = true) (hn : 1652 < n) : icX v6 kind n = 3 := by unfold icX; rw [if_neg (by rw [h]; decide), if_pos hn]
theorem icX_2 {v6 : Bool} {kind : Int} {n : Nat} (h : errK v6 kind = true) (hn : ¬ 1652 < n) : icX v6 kind n = 0 := by unfold icX; rw [if_neg (by rw [h]; decide), if_neg hn]
/-- What Write tells: so many bytes, an error. -/
def WrIO (m : Nat) (X : Int) (g : Nat → Int) (w : World) (e : Ending) (w' : World) : Prop :=
  ∃ U cu, e = .returned (.tuple #[.slice U m cu, .int .i64 X]) ∧ Own w' w.heap.size 5 U m cu g ∧ Below w.heap.size w w'
/-- How many. -/
def icM (v6 : Bool) (kind : Int) (n : Nat) : Nat := if icX v6 kind n = 0 then 8 + n else 0
theorem icB_byt {kind code su : Int} {r f : Nat → Int} (h1 : 0 ≤ kind ∧ kind ≤ 255) (h2 : 0 ≤ code ∧ code ≤ 255) (h3 : 0 ≤ su ∧ su ≤ 65535) (hr : Byt r) (hf : Byt f) : Byt (icB kind code su r f) := fun k => by
  have a := icH_byt h1 h2 h3 hr k
  have b := hf (k - 8)
  unfold icB cat
  split
  · exact a
  · exact b
theorem icB_app (kind code : Int) (r f z : Nat → Int) (k : Nat) : icB kind code 0 r f k = cat 8 (cat 4 (cat 0 z (four kind code 0 0)) r) f k := by
  unfold icB
  by_cases c : k < 8
  · unfold cat
    rw [if_pos c, if_pos c]
    obtain rfl | rfl | rfl | rfl | rfl | rfl | rfl | rfl : k = 0 ∨ k = 1 ∨ k = 2 ∨ k = 3 ∨ k = 4 ∨ k = 5 ∨ k = 6 ∨ k = 7 := by omega
    all_goals simp [icH, four]
  · unfold cat
    rw [if_neg c, if_neg c]
theorem icB_tail (kind code su : Int) (r f : Nat → Int) (k : Nat) : icB kind code su r f k = cat 4 (four kind code (su / 256) (su % 256)) (cat 4 r f) k := by
  unfold icB
  by_cases c : k < 8
  · by_cases c4 : k < 4
    · unfold cat
      rw [if_pos c, if_pos c4]
      obtain rfl | rfl | rfl | rfl : k = 0 ∨ k = 1 ∨ k = 2 ∨ k = 3 := by omega
      all_goals simp [icH, four]
    · unfold cat
      rw [if_pos c, if_neg c4, if_pos (by omega)]
      obtain rfl | rfl | rfl | rfl : k = 4 ∨ k = 5 ∨ k = 6 ∨ k = 7 := by omega
      all_goals simp [icH]
  · unfold cat
    rw [if_neg c, if_neg (by omega), if_neg (by omega)]
    congr 1 <;> omega
set_option maxRecDepth 100000 in
set_option maxHeartbeats 4000000 in
theorem iwrite_any (v6 : Bool) (s d : Nat → Int) (hs : Byt s) (hd : Byt d) (kind code : Int) (hk : 0 ≤ kind ∧ kind ≤ 255) (hco : 0 ≤ code ∧ code ≤ 255) (r : Nat → Int) (hrb : Byt r) (A : Option Addr) (n c : Nat) (f : Nat → Int) (hf : Byt f) (hn : n ≤ 140737488355) (w : World) (hr : Rd w w.heap.size A n f) :
    Calls Try.prog 13 #[.bool v6, .agg (arr16 s), .agg (arr16 d), .int .u8 kind, .int .u8 code, .agg (arr4 r), .slice A n c] w (WrIO (icM v6 kind n) (icX v6 kind n) (icB kind code (rgt (mS v6 s d (8 + n)) (icB kind code 0 r f) (8 + n)) r f) w) := by
  have HR := Lib.hid hr
  have HF := Lib.hid hf
  have HRB := Lib.hid hrb
  have HS := Lib.hid hs
  have HD := Lib.hid hd
  have HK := Lib.hid hk
  have HCO := Lib.hid hco
  clear hr hf hrb hs hd
  obtain ⟨X, hX⟩ : ∃ X, X = icX v6 kind n := ⟨_, rfl⟩
  obtain ⟨M, hM⟩ : ∃ M, M = icM v6 kind n := ⟨_, rfl⟩
  rw [← hX, ← hM]
  have HXE := Lib.hid hX
  have HME := Lib.hid hM
  clear hX hM
  obtain ⟨i0, hi0, hz0, hz1, hz2⟩ := info_parts Try.info5
  have HI0 := Lib.hid hi0
  have HZ0 := Lib.hid hz0
  have HZ1 := Lib.hid hz1
  have HZ2 := Lib.hid hz2
  clear hi0 hz0 hz1 hz2
  have e1 : (w.alloc (.cells (arr16 s) 22)).heap.size = w.heap.size + 1 := by simp
  have e2 : ((w.alloc (.cells (arr16 s) 22)).alloc (.cells (arr16 d) 22)).heap.size = w.heap.size + 1 + 1 := by simp
  have HM1 : Hid (Mem w (((w.alloc (.cells (arr16 s) 22)).alloc (.cells (arr16 d) 22)).alloc (.cells (arr4 r) 37)) [(w.heap.size, .cells (arr16 s) 22 (0, 0)), (w.heap.size + 1, .cells (arr16 d) 22 (0, 0)), (w.heap.size + 1 + 1, .cells (arr4 r) 37 (0, 0))]) := Lib.hid ((((Mem.nil w).alloc (.cells (arr16 s) 22)).new (.cells (arr16 d) 22) (w.heap.size + 1) e1.symm).new (.cells (arr4 r) 37) (w.heap.size + 1 + 1) e2.symm)
  clear e1 e2
  obtain ⟨ek, hek⟩ : ∃ ek, ek = errK v6 kind := ⟨_, rfl⟩
  have HEK := Lib.hid hek
  have HE0 : Hid (∀ W, Calls Try.prog 11 #[.bool v6, .int .u8 kind] W fun e w' => e = .returned (.bool ek) ∧ W = w') := Lib.hid fun W => by
    rw [hek]
    exact isErr_any v6 kind hk W
  clear hek hk hco
  go_enter Try.func13, Try.ntmps13
  go_upto_region 1 with fail
  change Code.wp _ _ _ _ (((w.alloc (.cells (arr16 s) 22)).alloc (.cells (arr16 d) 22)).alloc (.cells (arr4 r) 37))
  generalize ((w.alloc (.cells (arr16 s) 22)).alloc (.cells (arr16 d) 22)).alloc (.cells (arr4 r) 37) = u1 at *
  go_upto_if 21 with (first
    | (go_at_call 11; refine (HE0.out _).mono ?_; rintro e u2 ⟨rfl, rfl⟩))
  clear HE0
  cases ek
  · have hXe : X = 10 := HXE.out.trans (icX_0 HEK.out.symm)
    have hMe : M = 0 := HME.out.trans (by unfold icM; rw [← HXE.out, hXe]; rfl)
    go_wp2_with fail
    go_ret2
    exact ⟨none, 0, by first | rfl | (rw [hXe, hMe] <;> rfl), by first | exact Own.nil_ _ _ _ _ | (rw [hMe]; exact Own.nil_ _ _ _ _), HM1.out.below⟩
  · by_cases c1 : 1652 < n
    · have c1' : (n : Int) > 1652 := by omega
      have hXe : X = 3 := HXE.out.trans (icX_1 HEK.out.symm c1)
      have hMe : M = 0 := HME.out.trans (by unfold icM; rw [← HXE.out, hXe]; rfl)
      go_wp2_with fail
      go_ret2
      exact ⟨none, 0, by first | rfl | (rw [hXe, hMe] <;> rfl), by first | exact Own.nil_ _ _ _ _ | (rw [hMe]; exact Own.nil_ _ _ _ _), HM1.out.below⟩
    · have c1' : (n : Int) ≤ 1652 := by omega
      have hn2 : n ≤ 1652 := by omega
      have hXe : X = 0 := HXE.out.trans (icX_2 HEK.out.symm c1)
      have hMe : M = 8 + n := HME.out.trans (by unfold icM; rw [← HXE.out, hXe]; rfl)
      clear HXE HME HEK c1
      have hmk : ∀ W : World, (Instr.makeSlice 23 (.int .i64 0) (.int .i64 (8 + (n : Int)))).run Try.prog W = .ok (.slice (some ⟨W.heap.size, 0, none⟩) 0 (8 + n)) (W.alloc (.cells (madeCells (Value.int .u8 0).cells (8 + n)) 5)) := fun W => by
        have h := run_make (P := Try.prog) W 23 5 i0 (.int .u8 0) Try.underlying23 HI0.out HZ0.out .i64 .i64 0 (8 + (n : Int)) (by omega) (by omega) (by rw [HZ2.out]; omega) (by omega)
        have e2 : (8 + (n : Int)).toNat = 8 + n := by omega
        rw [e2, HZ1.out, Nat.mul_one] at h
        exact h
      have HO2 : Hid (MO w (u1.alloc (.cells (madeCells (Value.int .u8 0).cells (8 + n)) 5)) [(w.heap.size, .cells (arr16 s) 22 (0, 0)), (w.heap.size + 1, .cells (arr16 d) 22 (0, 0)), (w.heap.size + 1 + 1, .cells (arr4 r) 37 (0, 0))] u1.heap.size (some ⟨u1.heap.size, 0, none⟩) 0 (8 + n) (fun _ => 0)) :=
        Lib.hid (MO.start HM1.out (below_alloc u1 _) (made_own0 u1 u1.heap.size 5 (8 + n) (by omega) (Nat.le_refl _) (fun _ => 0) _ rfl))
      have hw8 : IntKind.i64.wrap (8 + (n : Int)) = 8 + (n : Int) := by rw [IntKind.wrap_i64]; omega
      go_upto_region 6 with fail
      clear hmk hw8 HM1
      obtain ⟨B, hB⟩ : ∃ B, B = u1.heap.size := ⟨_, rfl⟩
      change Code.wp _ _ _ _ (u1.alloc (.cells (madeCells (Value.int .u8 0).cells (8 + n)) 5))
      rw [← hB] at HO2 ⊢
      generalize u1.alloc (.cells (madeCells (Value.int .u8 0).cells (8 + n)) 5) = u2 at *
      clear hB
      have hB2 : B ≤ u2.heap.size := HO2.out.le
      go_upto_region 7 with (first
        | (at_builtin
           refine wpList_append_rd rfl (.tmp 29) (.tmp 32) _ rfl B 5 i0 Try.underlying23 HI0.out HZ0.out HZ1.out HZ2.out rfl (HO2.out.alloc (.cells #[.int .u8 kind, .int .u8 code, .int .u8 0, .int .u8 0] 5)).own rfl (rd_new4 u2 (u2.heap.size + 1) _ rfl (Nat.lt_succ_self _) _ _ _ _ 5) (by omega) (Nat.le_trans hB2 (alloc_le u2 _)) ?_
           intro A3 c3 u3 hown3 hg3 _
           have HO3 := Lib.hid ((HO2.out.alloc (.cells #[.int .u8 kind, .int .u8 code, .int .u8 0, .int .u8 0] 5)).app hown3 hg3)
           clear hown3 hg3))
      clear HO2 hB2
      have HB3 := HO3.out.le
      go_upto_region 8 with (first
        | (at_builtin
           refine wpList_append_rd rfl (.tmp 34) (.tmp 35) _ rfl B 5 i0 Try.underlying23 HI0.out HZ0.out HZ1.out HZ2.out rfl HO3.out.own rfl (blk_rd (HO3.out.mem.get 2 rfl) (lt_heap (HO3.out.mem.get 2 rfl)) (i := 0) (fun k hk => arr4_get r k hk)) (by omega) HB3 ?_
           intro A4 c4 u4 hown4 hg4 _
           have HO4 := Lib.hid (HO3.out.app hown4 hg4)
           clear hown4 hg4))
      clear HO3 HB3
      have HB4 := HO4.out.le
      go_upto_region 9 with (first
        | (at_builtin
           refine wpList_append_rd rfl (.tmp 37) (.tmp 38) _ rfl B 5 i0 Try.underlying23 HI0.out HZ0.out HZ1.out HZ2.out rfl HO4.out.own rfl (HR.out.keep HO4.out.below) (by omega) HB4 ?_
           intro A5 c5 u5 hown5 hg5 _
           have HO5 := Lib.hid (HO4.out.app hown5 hg5)
           clear hown5 hg5))
      clear HO4 HB4
      have HIB : Hid (Byt (icB kind code 0 r f)) := icB_byt HK.out HCO.out ⟨by omega, by omega⟩ HRB.out HF.out
      have HO6 : Hid (MO w u5 [(w.heap.size, .cells (arr16 s) 22 (0, 0)), (w.heap.size + 1, .cells (arr16 d) 22 (0, 0)), (w.heap.size + 1 + 1, .cells (arr4 r) 37 (0, 0))] B A5 (8 + n) c5 (icB kind code 0 r f)) := Lib.hid (by
        have q := HO5.out
        rw [show 0 + 4 + 4 + n = 8 + n by omega] at q
        exact q.same fun k _ => icB_app kind code r f (fun _ => 0) k)
      clear HO5
      have e8 : (0 + 4 + 4 + n) = 8 + n := by omega
      rw [e8]
      clear e8
      have hc5 := HO6.out.own.cap
      have HSO : Hid (∀ W, Rd W W.heap.size A5 (8 + n) (icB kind code 0 r f) → Calls Try.prog 21 #[.bool v6, .agg (arr16 s), .agg (arr16 d), .slice A5 (8 + n) c5] W fun e w' => e = .returned (.int .u16 (rgt (mS v6 s d (8 + n)) (icB kind code 0 r f) (8 + n))) ∧ Below W.heap.size W w') := Lib.hid fun W hr => isum_any v6 s d HS.out HD.out A5 (8 + n) c5 _ HIB.out (by omega) hc5 W hr
      have hCb := rgt_bd HIB.out (mS_bd v6 HS.out HD.out (8 + n)) (8 + n)
      generalize rgt (mS v6 s d (8 + n)) (icB kind code 0 r f) (8 + n) = C at *
      have HCS := Lib.hid (icB_sum kind code C r f)
      generalize icB kind code 0 r f = G at *
      go_wp2_with (first
        | (refine wpList_load_roww rfl 22 (.tmp 8) rfl w.heap.size rfl 22 (arr16 s) (0, 0) _ (HO6.out.mem.get 0 rfl) Try.underlying22 rfl (by kernel_rfl) ?_)
        | (refine wpList_load_roww rfl 22 (.tmp 9) rfl (w.heap.size + 1) rfl 22 (arr16 d) (0, 0) _ (HO6.out.mem.get 1 rfl) Try.underlying22 rfl (by kernel_rfl) ?_))
      go_at_call 21
      refine (HSO.out _ HO6.out.own.rd).mono ?_
      rintro e u7 ⟨rfl, hb7⟩
      have HO7 := Lib.hid (HO6.out.step hb7)
      clear hb7 HO6 HSO
      obtain ⟨g, hg⟩ := HO7.out.at_ (by omega)
      subst hg
      obtain ⟨x2, y2⟩ := HO7.out.cells 2 (by omega)
      obtain ⟨x3, y3⟩ := HO7.out.cells 3 (by omega)
      have z1 : IntKind.u8.wrap (C / 256) = C / 256 := by rw [IntKind.wrap_u8']; omega
      have z2 : IntKind.u8.wrap C = C % 256 := by rw [IntKind.wrap_u8']
      have i2 : (2 : Int) < ((8 + n : Nat) : Int) := by omega
      have i3 : (3 : Int) < ((8 + n : Nat) : Int) := by omega
      have hj2 : (2 : Int) < 8 + (n : Int) := by omega
      have hj3 : (3 : Int) < 8 + (n : Int) := by omega
      go_wp2_with fail
      go_ret2
      have HO8 := (HO7.out.set (by omega) 2 (C / 256)).set (by omega) 3 (C % 256)
      refine ⟨some ⟨g, 0, none⟩, c5, by first | rfl | (rw [hXe, hMe] <;> rfl), ?_, HO8.below⟩
      rw [HCS.out]
      first
        | exact HO8.own.le HO8.wle
        | (rw [hMe]; exact HO8.own.le HO8.wle)
end Go.Proofs.Ytfaelihfjmaekaa
