import Derived.Test.YthjgecdnlpdcdaaM15
import Derived.Test.YthjgecdnlpdcdaaM34
import Derived.Test.YthjgecdnlpdcdaaM13
import Derived.Test.YthjgecdnlpdcdaaM31
/- The program's Read. -/
namespace Go.Proofs.Ythjgecdnlpdcdaa
set_option maxRecDepth 100000
open Go.RowKit
def bldF4 (w : World) (tos id : Int) (df : Bool) (ttl proto : Int) (n : Nat) (f : Nat → Int) : Fact := fun v W => ∃ O co, v = .agg (ip4c tos id df ttl proto (fun _ => 0) (fun _ => 0) (.slice O n co)) ∧ Own W w.heap.size 5 O n co f
def newF4 (w : World) : Fact := fun v W => ∃ q, v = .pointer (some ⟨q, 0, none⟩) ∧ W.heap[q]? = some (.cells ip4z 61 (0, 0)) ∧ w.heap.size ≤ q
theorem stb_bld4 (w : World) (tos id : Int) (df : Bool) (ttl proto : Int) (n : Nat) (f : Nat → Int) : Stb (bldF4 w tos id df ttl proto n f) := fun _ _ _ ⟨O, co, h, ho⟩ hb => ⟨O, co, h, ho.below hb⟩
theorem stb_new4 (w : World) : Stb (newF4 w) := fun _ _ _ ⟨q, h, hq, hl⟩ hb => ⟨q, h, (hb.block _ (lt_heap hq)).trans hq, hl⟩
/-- Read's own memory: the result that is told, the header so far, its options. -/
structure RdS4 (w W : World) (q : Nat) (cs : Array Value) (O : Option Addr) (n co : Nat) (fo : Nat → Int) : Prop where
  res : W.heap[w.heap.size]? = some (.cells ip4z 61 (0, 0))
  hd : W.heap[q]? = some (.cells cs 61 (0, 0))
  own : Own W w.heap.size 5 O n co fo
  below : Below w.heap.size w W
  lt : w.heap.size < q
theorem RdS4.row {w W : World} {q : Nat} {cs : Array Value} {O : Option Addr} {n co : Nat} {fo : Nat → Int} (h : RdS4 w W q cs O n co fo) (new : Array Value) : RdS4 w (W.setRow q new) q new O n co fo :=
  ⟨(setRow_other W q w.heap.size new (Nat.ne_of_lt h.lt)).trans h.res, setRow_heap W q _ new _ _ h.hd, h.own.other h.hd (by decide) fun k hk => setRow_other W q k new hk, below_setRow h.below (Nat.le_of_lt h.lt) new, h.lt⟩
theorem RdS4.drew {w W : World} {q : Nat} {cs : Array Value} {O : Option Addr} {n co : Nat} {fo : Nat → Int} (h : RdS4 w W q cs O n co fo) : RdS4 w W.drew q cs O n co fo := ⟨h.res, h.hd, h.own.drew, h.below.drew, h.lt⟩
theorem RdS4.step {w W W' : World} {q : Nat} {cs : Array Value} {O : Option Addr} {n co : Nat} {fo : Nat → Int} (h : RdS4 w W q cs O n co fo) (hb : Below W.heap.size W W') : RdS4 w W' q cs O n co fo :=
  ⟨(hb.block _ (lt_heap h.res)).trans h.res, (hb.block _ (lt_heap h.hd)).trans h.hd, h.own.below hb, h.below.trans (hb.mono h.below.size), h.lt⟩
theorem and14 (x : Int) (h : 0 ≤ x) (h' : x < 32768) : bits .and .u16 x 16384 = if 16384 ≤ x then 16384 else 0 := by
  obtain ⟨n, rfl⟩ := Int.eq_ofNat_of_zero_le h
  have e := u16_and_nat n 16384 (by omega) (by omega)
  have q : n &&& 16384 = if 16384 ≤ n then 16384 else 0 := and_pow n 14 (by omega)
  rw [q] at e
  refine e.trans ?_
  by_cases c : 16384 ≤ n
  · rw [if_pos c, if_pos (by omega)]; rfl
  · rw [if_neg c, if_neg (by omega)]; rfl
set_option maxRecDepth 100000 in
set_option maxHeartbeats 4000000 in
theorem read4_any (A : Option Addr) (n c : Nat) (f : Nat → Int) (hf : Byt f) (hn : n ≤ 140737488355328) (hcap : n ≤ c) (hc' : c ≤ 9223372036854775807) (w : World) (hr : Rd w w.heap.size A n f) :
    Calls Try.prog 17 #[.slice A n c] w (Read4P 5 (rd4E f n) f w) := by
  have HR := Lib.hid hr
  have HF := Lib.hid hf
  clear hr hf
  have HZ1 : Hid ((w.alloc (.cells ip4z 61)).heap[w.heap.size]? = some (.cells ip4z 61 (0, 0))) := heap_alloc_new w _
  have HB1 : Hid (Below w.heap.size w (w.alloc (.cells ip4z 61))) := below_alloc w _
  have HFA := Lib.hid (fault_any A n c f HF.out (by omega) hcap hc' (w.alloc (.cells ip4z 61)) ((HR.out.keep HB1.out).more HB1.out.size))
  obtain ⟨R, hR⟩ : ∃ R, R = rd4E f n := ⟨_, rfl⟩
  rw [← hR] at HFA ⊢
  have HRE := Lib.hid hR
  clear hR
  go_enter Try.func17, Try.ntmps17
  go_upto_if 11 with (first
    | (go_at_call 24; refine HFA.out.mono ?_; rintro e w2 ⟨rfl, hb2⟩; have HZ2 := Lib.hid ((hb2.block _ (lt_heap HZ1.out)).trans HZ1.out); have HB2 : Hid (Below w.heap.size w w2) := HB1.out.trans (hb2.mono HB1.out.size); clear hb2))
  clear HFA HZ1 HB1
  by_cases hR0 : R = 0
  · subst hR0
    have HOK := Lib.hid (rd4_ok HF.out HRE.out.symm)
    obtain ⟨H, hH⟩ : ∃ H, H = hl4 f := ⟨_, rfl⟩
    obtain ⟨T, hT⟩ : ∃ T, T = tl4 f := ⟨_, rfl⟩
    obtain ⟨k1, k2, k3, k4, k5, _⟩ := HOK.out
    rw [← hH] at k1 k2 k3
    rw [← hT] at k3 k4 k5
    rcases HR.out with h0 | ⟨b, off, rfl, hbb, hcell⟩
    · omega
    have HC := Lib.hid hcell
    clear hcell
    obtain ⟨p0, q0⟩ := HF.out 0
    have hH' : f 0 % 16 * 4 = (H : Int) := by rw [hH]; unfold hl4; omega
    have HHL := Lib.hid (headLen_any b off n c f HF.out (by omega) w2 ((HB2.out.cell (p := ⟨b, off, none⟩) hbb).trans (HC.out 0 (by omega))))
    rw [hH'] at HHL
    have HH := Lib.hid hH
    have HT := Lib.hid hT
    clear hH hT hH' p0 q0
    go_upto_region 5 with (first
      | (go_at_call 25; refine HHL.out.mono ?_; rintro e w2 ⟨rfl, rfl⟩))
    clear HHL
    obtain ⟨A20, hs20, hr20⟩ := slice_both b off n c 20 H (by omega) (by omega) hcap hc'
    have hs20' : ∀ W, (Instr.sliceAt 26 (.slice (some ⟨b, off, none⟩) n c) (some (.int .i64 20)) (some (.int .i64 (H : Int))) none).run Try.prog W = .ok (.slice A20 (H - 20) (c - 20)) W := hs20
    clear hs20
    obtain ⟨ID, hID⟩ : ∃ ID, ID = f 4 * 256 + f 5 := ⟨_, rfl⟩
    obtain ⟨G, hG⟩ : ∃ G, G = f 6 * 256 + f 7 := ⟨_, rfl⟩
    have hG0 : 0 ≤ G := by have := HF.out 6; have := HF.out 7; omega
    have hG1 : G < 32768 := by
      have q := HOK.out.2.2.2.2.2.2.2.2.2.2
      have := HF.out 6
      have := HF.out 7
      split at q <;> omega
    have ha14 := and14 G hG0 hG1
    obtain ⟨M, hM⟩ : ∃ M : Int, M = if 16384 ≤ G then 16384 else 0 := ⟨_, rfl⟩
    rw [← hM] at ha14
    have HM := Lib.hid hM
    clear hM
    obtain ⟨i0, hi0, hz0, hz1, hz2⟩ := info_parts Try.info5
    have HI0 := Lib.hid hi0
    have HZ0 := Lib.hid hz0
    have HI1 := Lib.hid hz1
    have HI2 := Lib.hid hz2
    clear hi0 hz0 hz1 hz2
    have hb2 : b < w2.heap.size := Nat.lt_of_lt_of_le hbb HB2.out.size
    have HX : Hid (∀ k, k < n → w2.cell? ⟨b, off + k, none⟩ = some (.int .u8 (f k))) := fun k hk => (HB2.out.cell (p := ⟨b, off + k, none⟩) hbb).trans (HC.out k hk)
    have HID := Lib.hid hID
    have HG := Lib.hid hG
    clear hID hG
    have i1 : (1 : Int) < (n : Int) := by omega
    have i8 : (8 : Int) < (n : Int) := by omega
    have i9 : (9 : Int) < (n : Int) := by omega
    obtain ⟨DF, hDF⟩ : ∃ DF, DF = decide (16384 ≤ G) := ⟨_, rfl⟩
    have HDF := Lib.hid hDF
    clear hDF
    refine wp_region_grow (C := fun W => Below w2.heap.size w2 W) 22 55 [val (.slice (some ⟨b, off, none⟩) n c), val (.pointer (some ⟨b, off + 1, none⟩)), val (.int .u8 (f 1)), val (.slice (some ⟨b, off, none⟩) n c), val (.int .u16 ID), val (.slice (some ⟨b, off, none⟩) n c), val (.int .u16 G), val (.int .u16 M), val (.bool DF), val (.slice (some ⟨b, off, none⟩) n c), val (.pointer (some ⟨b, off + 8, none⟩)), val (.int .u8 (f 8)), val (.slice (some ⟨b, off, none⟩) n c), val (.pointer (some ⟨b, off + 9, none⟩)), val (.int .u8 (f 9)), mkF w2, val (.slice (some ⟨b, off, none⟩) n c), val (.int .i64 (H : Int)), val (.slice A20 (H - 20) (c - 20)), ownF w2 (H - 20) (fun k => f (20 + k)), bldF4 w2 (f 1) ID DF (f 8) (f 9) (H - 20) (fun k => f (20 + k)), newF4 w2] (by kernel_rfl) rfl (by kernel_rfl) rfl ⟨stb_val _, stb_val _, stb_val _, stb_val _, stb_val _, stb_val _, stb_val _, stb_val _, stb_val _, stb_val _, stb_val _, stb_val _, stb_val _, stb_val _, stb_val _, stb_mk _, stb_val _, stb_val _, stb_val _, stb_own _ _ _, stb_bld4 _ _ _ _ _ _ _ _, stb_new4 _, trivial⟩ (Below.refl _ _).drew ?_ ?_
    · refine each_cons ?_ ?_
      · intro a W hW hd
        have h0 : a.tmps[0]?.getD undef = .slice (some ⟨b, off, none⟩) n c := slot_eq (hd 0 (by decide))
        exact grows_value _ hW (by simp [execOp, Act.eval, h0]) rfl
      refine each_cons ?_ ?_
      · intro a W hW hd
        have h16 : a.tmps[16]?.getD undef = .slice (some ⟨b, off, none⟩) n c := slot_eq (hd 16 (by decide))
        refine grows_value _ hW (?_ : _ = _) rfl
        clear hd
        go_simp
      refine each_cons ?_ ?_
      · intro a W hW hd
        have h17 : a.tmps[17]?.getD undef = .pointer (some ⟨b, off + 1, none⟩) := slot_eq (hd 17 (by decide))
        have hx := (hW.cell (p := ⟨b, off + 1, none⟩) hb2).trans (HX.out 1 (by omega))
        refine grows_value _ hW (?_ : _ = _) rfl
        clear hd
        go_simp
      refine each_cons ?_ ?_
      · intro a W hW hd
        have h0 : a.tmps[0]?.getD undef = .slice (some ⟨b, off, none⟩) n c := slot_eq (hd 0 (by decide))
        exact grows_value _ hW (by simp [execOp, Act.eval, h0]) rfl
      refine each_cons ?_ ?_
      · intro a W hW hd
        have h19 : a.tmps[19]?.getD undef = .slice (some ⟨b, off, none⟩) n c := slot_eq (hd 19 (by decide))
        refine grows_call (fn := 26) (args := #[.slice (some ⟨b, off, none⟩) n c, .int .i64 4]) ?_ ?_
        · clear hd
          go_simp
        · refine (word4_any b off n c 4 f HF.out (by omega) (by omega) W (fun k hk => (hW.cell (p := ⟨b, off + k, none⟩) hb2).trans (HX.out k hk))).mono ?_
          rintro e w' ⟨he, hb⟩
          exact ⟨_, he, (by rw [HID.out]; rfl), hb, hW.trans (hb.mono hW.size)⟩
      refine each_cons ?_ ?_
      · intro a W hW hd
        have h0 : a.tmps[0]?.getD undef = .slice (some ⟨b, off, none⟩) n c := slot_eq (hd 0 (by decide))
        exact grows_value _ hW (by simp [execOp, Act.eval, h0]) rfl
      refine each_cons ?_ ?_
      · intro a W hW hd
        have h21 : a.tmps[21]?.getD undef = .slice (some ⟨b, off, none⟩) n c := slot_eq (hd 21 (by decide))
        refine grows_call (fn := 26) (args := #[.slice (some ⟨b, off, none⟩) n c, .int .i64 6]) ?_ ?_
        · clear hd
          go_simp
        · refine (word4_any b off n c 6 f HF.out (by omega) (by omega) W (fun k hk => (hW.cell (p := ⟨b, off + k, none⟩) hb2).trans (HX.out k hk))).mono ?_
          rintro e w' ⟨he, hb⟩
          exact ⟨_, he, (by rw [HG.out]; rfl), hb, hW.trans (hb.mono hW.size)⟩
      refine each_cons ?_ ?_
      · intro a W hW hd
        have h22 : a.tmps[22]?.getD undef = .int .u16 G := slot_eq (hd 22 (by decide))
        refine grows_value _ hW (?_ : _ = _) rfl
        clear hd
        go_simp
      refine each_cons ?_ ?_
      · intro a W hW hd
        have h23 : a.tmps[23]?.getD undef = .int .u16 M := slot_eq (hd 23 (by decide))
        refine grows_value _ hW (?_ : _ = _) rfl
        clear hd
        go_simp
        rw [HDF.out, HM.out]
        by_cases q : 16384 ≤ G <;> simp [q]
      refine each_cons ?_ ?_
      · intro a W hW hd
        have h0 : a.tmps[0]?.getD undef = .slice (some ⟨b, off, none⟩) n c := slot_eq (hd 0 (by decide))
        exact grows_value _ hW (by simp [execOp, Act.eval, h0]) rfl
      refine each_cons ?_ ?_
      · intro a W hW hd
        have h25 : a.tmps[25]?.getD undef = .slice (some ⟨b, off, none⟩) n c := slot_eq (hd 25 (by decide))
        refine grows_value _ hW (?_ : _ = _) rfl
        clear hd
        go_simp
      refine each_cons ?_ ?_
      · intro a W hW hd
        have h26 : a.tmps[26]?.getD undef = .pointer (some ⟨b, off + 8, none⟩) := slot_eq (hd 26 (by decide))
        have hx := (hW.cell (p := ⟨b, off + 8, none⟩) hb2).trans (HX.out 8 (by omega))
        refine grows_value _ hW (?_ : _ = _) rfl
        clear hd
        go_simp
      refine each_cons ?_ ?_
      · intro a W hW hd
        have h0 : a.tmps[0]?.getD undef = .slice (some ⟨b, off, none⟩) n c := slot_eq (hd 0 (by decide))
        exact grows_value _ hW (by simp [execOp, Act.eval, h0]) rfl
      refine each_cons ?_ ?_
      · intro a W hW hd
        have h28 : a.tmps[28]?.getD undef = .slice (some ⟨b, off, none⟩) n c := slot_eq (hd 28 (by decide))
        refine grows_value _ hW (?_ : _ = _) rfl
        clear hd
        go_simp
      refine each_cons ?_ ?_
      · intro a W hW hd
        have h29 : a.tmps[29]?.getD undef = .pointer (some ⟨b, off + 9, none⟩) := slot_eq (hd 29 (by decide))
        have hx := (hW.cell (p := ⟨b, off + 9, none⟩) hb2).trans (HX.out 9 (by omega))
        refine grows_value _ hW (?_ : _ = _) rfl
        clear hd
        go_simp
      refine each_cons ?_ ?_
      · intro a W hW hd
        refine grows_new (.slice (some ⟨W.heap.size, 0, none⟩) 0 0) (w' := W.alloc (.cells #[] 5)) (?_ : _ = _) ⟨_, rfl, Own.fresh W _ _ rfl hW.size _ _⟩ (below_alloc _ _) (hW.alloc hW.size _)
        clear hd
        go_simp
      refine each_cons ?_ ?_
      · intro a W hW hd
        have h0 : a.tmps[0]?.getD undef = .slice (some ⟨b, off, none⟩) n c := slot_eq (hd 0 (by decide))
        exact grows_value _ hW (by simp [execOp, Act.eval, h0]) rfl
      refine each_cons ?_ ?_
      · intro a W hW hd
        have h6 : a.tmps[6]?.getD undef = .int .i64 (H : Int) := slot_eq (hd 6 (by decide))
        exact grows_value _ hW (by simp [execOp, Act.eval, h6]) rfl
      refine each_cons ?_ ?_
      · intro a W hW hd
        have h32 : a.tmps[32]?.getD undef = .slice (some ⟨b, off, none⟩) n c := slot_eq (hd 32 (by decide))
        have h33 : a.tmps[33]?.getD undef = .int .i64 (H : Int) := slot_eq (hd 33 (by decide))
        refine grows_value _ hW (?_ : _ = _) rfl
        clear hd
        go_simp
      refine each_cons ?_ ?_
      · intro a W hW hd
        have h34 : a.tmps[34]?.getD undef = .slice A20 (H - 20) (c - 20) := slot_eq (hd 34 (by decide))
        obtain ⟨z, h31, ho⟩ := hd 31 (by decide)
        have h31' : a.tmps[31]?.getD undef = .slice (some ⟨z, 0, none⟩) 0 0 := slot_eq h31
        obtain ⟨A2, c2, w', hrun, hown, hb⟩ := run_append_fresh (P := Try.prog) w2.heap.size 26 26 5 i0 Try.underlying26 HI0.out HZ0.out HI1.out HI2.out ⟨z, 0, none⟩ ho (c' := c - 20) (hr20 W W.heap.size f (.inr ⟨b, off, rfl, Nat.lt_of_lt_of_le hb2 hW.size, fun k hk => (hW.cell (p := ⟨b, off + k, none⟩) hb2).trans (HX.out k hk)⟩)) (by omega) hW.size
        refine grows_new (.slice A2 (H - 20) c2) (w' := w') ?_ ⟨A2, c2, rfl, hown⟩ hb (hW.trans (hb.mono hW.size))
        clear hd
        simp only [execOp, resolve, invoke, builtin, Sem.run_bind, Sem.run_pure, Result.andThen_ok, List.map_toArray, List.map_cons, List.map_nil, Act.eval, Array.getD_eq_getD_getElem?, h31', h34, hrun]
      refine each_cons ?_ ?_
      · intro a W hW hd
        have h18 : a.tmps[18]?.getD undef = .int .u8 (f 1) := slot_eq (hd 18 (by decide))
        have h20 : a.tmps[20]?.getD undef = .int .u16 ID := slot_eq (hd 20 (by decide))
        have h24 : a.tmps[24]?.getD undef = .bool DF := slot_eq (hd 24 (by decide))
        have h27 : a.tmps[27]?.getD undef = .int .u8 (f 8) := slot_eq (hd 27 (by decide))
        have h30 : a.tmps[30]?.getD undef = .int .u8 (f 9) := slot_eq (hd 30 (by decide))
        obtain ⟨O, co, h35, ho⟩ := hd 35 (by decide)
        have h35' : a.tmps[35]?.getD undef = .slice O (H - 20) co := slot_eq h35
        refine grows_value _ hW (?_ : _ = _) ⟨O, co, rfl, ho⟩
        clear hd
        go_simp
        rfl
      refine each_cons ?_ ?_
      · intro a W hW hd
        refine grows_new (.pointer (some ⟨W.heap.size, 0, none⟩)) (w' := W.alloc (.cells ip4z 61)) (?_ : _ = _) ⟨_, rfl, heap_alloc_new W _, hW.size⟩ (below_alloc _ _) (hW.alloc hW.size _)
        clear hd
        go_simp
        rfl
      exact each_nil
    · refine behind_val rfl ?_
      refine behind_val rfl ?_
      refine behind_val rfl ?_
      refine behind_val rfl ?_
      refine behind_val rfl ?_
      refine behind_val rfl ?_
      refine behind_val rfl ?_
      refine behind_val rfl ?_
      refine behind_val rfl ?_
      refine behind_val rfl ?_
      refine behind_val rfl ?_
      refine behind_val rfl ?_
      refine behind_val rfl ?_
      refine behind_val rfl ?_
      refine behind_val rfl ?_
      refine behind_cons fun v31 => ?_
      refine behind_val rfl ?_
      refine behind_val rfl ?_
      refine behind_val rfl ?_
      refine behind_cons fun v35 => ?_
      refine behind_cons fun v36 => ?_
      refine behind_cons fun v7 => ?_
      refine behind_nil fun w6 hC6 hF6 => ?_
      obtain ⟨⟨⟨⟨_, _⟩, _⟩, ⟨O, co, rfl, hO⟩⟩, ⟨q, rfl, hq, hlq⟩⟩ := hF6
      clear ha14 hs20' hr20
      simp only [Act.put, List.setIfInBounds_toArray, List.set_cons_succ, List.set_cons_zero, List.drop_succ_cons, List.drop_zero]
      have HL := Lib.hid (ip4_one (f 1) ID DF (f 8) (f 9) (fun _ => 0) (fun _ => 0) O (H - 20) co)
      have HQ := Lib.hid hq
      refine wpList_store_row rfl 61 (.tmp 7) (.tmp 36) rfl q (ip4c (f 1) ID DF (f 8) (f 9) (fun _ => 0) (fun _ => 0) (.slice O (H - 20) co)) rfl rfl 61 ip4z HQ.out (by kernel_rfl) rfl HL.out ?_
      refine wpList_nil ?_
      simp only [Act.put]
      have HS7 : Hid (RdS4 w (w6.setRow q (ip4c (f 1) ID DF (f 8) (f 9) (fun _ => 0) (fun _ => 0) (.slice O (H - 20) co))) q (ip4c (f 1) ID DF (f 8) (f 9) (fun _ => 0) (fun _ => 0) (.slice O (H - 20) co)) O (H - 20) co (fun k => f (20 + k))) :=
        RdS4.row (cs := ip4z) ⟨(hC6.block _ (lt_heap HZ2.out)).trans HZ2.out, HQ.out, hO.le HB2.out.size, HB2.out.trans (hC6.mono HB2.out.size), by have := lt_heap HZ2.out; omega⟩ _
      clear HQ HL hq hO hC6
      generalize w6.setRow q (ip4c (f 1) ID DF (f 8) (f 9) (fun _ => 0) (fun _ => 0) (.slice O (H - 20) co)) = w7 at *
      obtain ⟨A12, hs12, hr12⟩ := slice_both b off n c 12 16 (by omega) (by omega) hcap hc'
      have hs12' : ∀ W, (Instr.sliceAt 26 (.slice (some ⟨b, off, none⟩) n c) (some (.int .i64 12)) (some (.int .i64 16)) none).run Try.prog W = .ok (.slice A12 4 (c - 12)) W := hs12
      have HR12 : Hid (Rd w7.drew w7.drew.heap.size A12 4 (fun k => f (12 + k))) := hr12 _ _ f ((HR.out.keep HS7.out.below.drew).more HS7.out.below.drew.size)
      clear hs12 hr12
      go_upto_region 6 with fail
      go_region_held3 (fun _ => True) (trivial)
        (first
        | (refine step_copy_row rfl (.tmp 38) (.tmp 40) _ rfl 5 Try.underlying26 (by kernel_rfl) HS7.out.drew.hd rfl rfl HR12.out 4 (by omega) (by omega) (by show 5 + 4 ≤ 38; omega) (ip4c (f 1) ID DF (f 8) (f 9) (adr fun k => f (12 + k)) (fun _ => 0) (.slice O (H - 20) co)) rfl ?_))
      have HS8 : Hid (RdS4 w (w7.drew.setRow q (ip4c (f 1) ID DF (f 8) (f 9) (adr fun k => f (12 + k)) (fun _ => 0) (.slice O (H - 20) co))) q (ip4c (f 1) ID DF (f 8) (f 9) (adr fun k => f (12 + k)) (fun _ => 0) (.slice O (H - 20) co)) O (H - 20) co (fun k => f (20 + k))) := HS7.out.drew.row _
      clear HS7 HR12 hs12'
      generalize w7.drew.setRow q (ip4c (f 1) ID DF (f 8) (f 9) (adr fun k => f (12 + k)) (fun _ => 0) (.slice O (H - 20) co)) = w8 at *
      obtain ⟨A16, hs16, hr16⟩ := slice_both b off n c 16 20 (by omega) (by omega) hcap hc'
      have hs16' : ∀ W, (Instr.sliceAt 26 (.slice (some ⟨b, off, none⟩) n c) (some (.int .i64 16)) (some (.int .i64 20)) none).run Try.prog W = .ok (.slice A16 4 (c - 16)) W := hs16
      have HR16 : Hid (Rd w8.drew w8.drew.heap.size A16 4 (fun k => f (16 + k))) := hr16 _ _ f ((HR.out.keep HS8.out.below.drew).more HS8.out.below.drew.size)
      clear hs16 hr16
      go_upto_region 7 with fail
      go_region_held3 (fun _ => True) (trivial)
        (first
        | (refine step_copy_row rfl (.tmp 43) (.tmp 45) _ rfl 5 Try.underlying26 (by kernel_rfl) HS8.out.drew.hd rfl rfl HR16.out 4 (by omega) (by omega) (by show 21 + 4 ≤ 38; omega) (ip4c (f 1) ID DF (f 8) (f 9) (adr fun k => f (12 + k)) (adr fun k => f (16 + k)) (.slice O (H - 20) co)) rfl ?_))
      have HS9 : Hid (RdS4 w (w8.drew.setRow q (ip4c (f 1) ID DF (f 8) (f 9) (adr fun k => f (12 + k)) (adr fun k => f (16 + k)) (.slice O (H - 20) co))) q (ip4c (f 1) ID DF (f 8) (f 9) (adr fun k => f (12 + k)) (adr fun k => f (16 + k)) (.slice O (H - 20) co)) O (H - 20) co (fun k => f (20 + k))) := HS8.out.drew.row _
      clear HS8 HR16 hs16'
      generalize w8.drew.setRow q (ip4c (f 1) ID DF (f 8) (f 9) (adr fun k => f (12 + k)) (adr fun k => f (16 + k)) (.slice O (H - 20) co)) = w9 at *
      go_upto_region 8 with fail
      obtain ⟨AH, hsH, hrH⟩ := slice_both16 b off n c H T (by omega) (by omega) hcap hc'
      have HRH := Lib.hid hrH
      clear hrH
      have hb9 : b < w9.heap.size := Nat.lt_of_lt_of_le hbb HS9.out.below.size
      have HX9 : Hid (∀ k, k < n → w9.cell? ⟨b, off + k, none⟩ = some (.int .u8 (f k))) := fun k hk => (HS9.out.below.cell (p := ⟨b, off + k, none⟩) hbb).trans (HC.out k hk)
      have HTT : Hid ((T : Int) = f 2 * 256 + f (2 + 1)) := by
        have := HF.out 2
        have := HF.out 3
        rw [HT.out]
        unfold tl4
        show ((f 2 * 256 + f 3).toNat : Int) = f 2 * 256 + f 3
        omega
      refine wp_region_grow (C := fun W => Below w9.heap.size w9 W) 8 55 [val (.agg (ip4c (f 1) ID DF (f 8) (f 9) (adr fun k => f (12 + k)) (adr fun k => f (16 + k)) (.slice O (H - 20) co))), mkF w9, val (.slice (some ⟨b, off, none⟩) n c), val (.int .i64 (H : Int)), val (.slice (some ⟨b, off, none⟩) n c), val (.int .u16 (T : Int)), val (.slice AH (T - H) (c - H)), ownF w9 (T - H) (fun k => f (H + k))] (by kernel_rfl) rfl (by kernel_rfl) rfl ⟨stb_val _, stb_mk _, stb_val _, stb_val _, stb_val _, stb_val _, stb_val _, stb_own _ _ _, trivial⟩ (Below.refl _ _).drew ?_ ?_
      · refine each_cons ?_ ?_
        · intro a W hW hd
          have h7 : a.tmps[7]?.getD undef = .pointer (some ⟨q, 0, none⟩) := slot_eq (hd 7 (by decide))
          refine grows_value (.agg (ip4c (f 1) ID DF (f 8) (f 9) (adr fun k => f (12 + k)) (adr fun k => f (16 + k)) (.slice O (H - 20) co))) hW (?_ : _ = _) rfl
          clear hd
          simp only [execOp, Act.eval, Array.getD_eq_getD_getElem?, h7, Instr.loadAt, Instr.sureAddr, Sem.run_bind, Sem.run_pure, Result.andThen_ok, run_loadVar_row W q 61 61 (ip4c (f 1) ID DF (f 8) (f 9) (adr fun k => f (12 + k)) (adr fun k => f (16 + k)) (.slice O (H - 20) co)) (0, 0) _ ((hW.block _ (lt_heap HS9.out.hd)).trans HS9.out.hd) Try.underlying61 rfl (by kernel_rfl)]
        refine each_cons ?_ ?_
        · intro a W hW hd
          refine grows_new (.slice (some ⟨W.heap.size, 0, none⟩) 0 0) (w' := W.alloc (.cells #[] 5)) (?_ : _ = _) ⟨_, rfl, Own.fresh W _ _ rfl hW.size _ _⟩ (below_alloc _ _) (hW.alloc hW.size _)
          clear hd
          go_simp
        refine each_cons ?_ ?_
        · intro a W hW hd
          have h0 : a.tmps[0]?.getD undef = .slice (some ⟨b, off, none⟩) n c := slot_eq (hd 0 (by decide))
          exact grows_value _ hW (by simp [execOp, Act.eval, h0]) rfl
        refine each_cons ?_ ?_
        · intro a W hW hd
          have h6 : a.tmps[6]?.getD undef = .int .i64 (H : Int) := slot_eq (hd 6 (by decide))
          exact grows_value _ hW (by simp [execOp, Act.eval, h6]) rfl
        refine each_cons ?_ ?_
        · intro a W hW hd
          have h0 : a.tmps[0]?.getD undef = .slice (some ⟨b, off, none⟩) n c := slot_eq (hd 0 (by decide))
          exact grows_value _ hW (by simp [execOp, Act.eval, h0]) rfl
        refine each_cons ?_ ?_
        · intro a W hW hd
          have h51 : a.tmps[51]?.getD undef = .slice (some ⟨b, off, none⟩) n c := slot_eq (hd 51 (by decide))
          refine grows_call (fn := 26) (args := #[.slice (some ⟨b, off, none⟩) n c, .int .i64 2]) ?_ ?_
          · clear hd
            go_simp
          · refine (word4_any b off n c 2 f HF.out (by omega) (by omega) W (fun k hk => (hW.cell (p := ⟨b, off + k, none⟩) hb9).trans (HX9.out k hk))).mono ?_
            rintro e w' ⟨he, hb⟩
            exact ⟨_, he, (by rw [HTT.out]; rfl), hb, hW.trans (hb.mono hW.size)⟩
        refine each_cons ?_ ?_
        · intro a W hW hd
          have h49 : a.tmps[49]?.getD undef = .slice (some ⟨b, off, none⟩) n c := slot_eq (hd 49 (by decide))
          have h50 : a.tmps[50]?.getD undef = .int .i64 (H : Int) := slot_eq (hd 50 (by decide))
          have h52 : a.tmps[52]?.getD undef = .int .u16 (T : Int) := slot_eq (hd 52 (by decide))
          refine grows_value _ hW (?_ : _ = _) rfl
          clear hd
          go_simp
        refine each_cons ?_ ?_
        · intro a W hW hd
          have h53 : a.tmps[53]?.getD undef = .slice AH (T - H) (c - H) := slot_eq (hd 53 (by decide))
          obtain ⟨z, h48, ho⟩ := hd 48 (by decide)
          have h48' : a.tmps[48]?.getD undef = .slice (some ⟨z, 0, none⟩) 0 0 := slot_eq h48
          obtain ⟨A2, c2, w', hrun, hown, hb⟩ := run_append_fresh (P := Try.prog) w9.heap.size 26 26 5 i0 Try.underlying26 HI0.out HZ0.out HI1.out HI2.out ⟨z, 0, none⟩ ho (c' := c - H) (HRH.out W W.heap.size f (.inr ⟨b, off, rfl, Nat.lt_of_lt_of_le hb9 hW.size, fun k hk => (hW.cell (p := ⟨b, off + k, none⟩) hb9).trans (HX9.out k hk)⟩)) (by omega) hW.size
          refine grows_new (.slice A2 (T - H) c2) (w' := w') ?_ ⟨A2, c2, rfl, hown⟩ hb (hW.trans (hb.mono hW.size))
          clear hd
          simp only [execOp, resolve, invoke, builtin, Sem.run_bind, Sem.run_pure, Result.andThen_ok, List.map_toArray, List.map_cons, List.map_nil, Act.eval, Array.getD_eq_getD_getElem?, h48', h53, hrun]
        exact each_nil
      · refine behind_val rfl ?_
        refine behind_cons fun v48 => ?_
        refine behind_val rfl ?_
        refine behind_val rfl ?_
        refine behind_val rfl ?_
        refine behind_val rfl ?_
        refine behind_val rfl ?_
        refine behind_cons fun v54 => ?_
        refine behind_nil fun w10 hC10 hF10 => ?_
        obtain ⟨⟨_, _⟩, ⟨P, cp, rfl, hP⟩⟩ := hF10
        have HP := Lib.hid hP
        have HS10 := Lib.hid (HS9.out.step hC10)
        have HAP := Lib.hid (HS9.out.own.apart hP)
        clear hP hC10
        simp only [Act.put, List.setIfInBounds_toArray, List.set_cons_succ, List.set_cons_zero, List.drop_succ_cons, List.drop_zero]
        refine wpList_store_row rfl 61 (.tmp 2) (.tmp 47) rfl w.heap.size (ip4c (f 1) ID DF (f 8) (f 9) (adr fun k => f (12 + k)) (adr fun k => f (16 + k)) (.slice O (H - 20) co)) rfl rfl 61 ip4z HS10.out.res (by kernel_rfl) rfl (ip4_one ..) ?_
        simp only [Act.put]
        go_wp2_with fail
        refine bodyPost_ret (v := .tuple #[.agg (ip4c (f 1) ID DF (f 8) (f 9) (adr fun k => f (12 + k)) (adr fun k => f (16 + k)) (.slice O (H - 20) co)), .slice P (T - H) cp, .int .i64 0]) (results_row2 Try.results17 _ _ w.heap.size 61 (ip4c (f 1) ID DF (f 8) (f 9) (adr fun k => f (12 + k)) (adr fun k => f (16 + k)) (.slice O (H - 20) co)) (0, 0) _ rfl (setRow_heap _ w.heap.size _ (ip4c (f 1) ID DF (f 8) (f 9) (adr fun k => f (12 + k)) (adr fun k => f (16 + k)) (.slice O (H - 20) co)) _ _ HS10.out.res) Try.underlying61 rfl (by kernel_rfl)) rfl ?_
        refine .inr ⟨rfl, ?_⟩
        unfold Read4
        rw [← HH.out, ← HT.out, ← HID.out, ← HG.out, ← HDF.out]
        exact ⟨O, co, P, cp, rfl, HS10.out.own.other HS10.out.res (by decide) (fun k hk => setRow_other _ w.heap.size k _ hk), (HP.out.le HS9.out.below.size).other HS10.out.res (by decide) (fun k hk => setRow_other _ w.heap.size k _ hk), HAP.out, below_setRow HS10.out.below (Nat.le_refl _) _⟩
  · go_wp2_with (first
      | (refine wpList_store_row rfl 61 (.tmp 2) (.tmp 12) rfl w.heap.size ip4z rfl rfl 61 ip4z HZ2.out (by kernel_rfl) rfl ip4z_one ?_))
    refine bodyPost_ret (v := .tuple #[.agg ip4z, .slice none 0 0, .int .i64 R]) (results_row2 Try.results17 _ _ w.heap.size 61 ip4z (0, 0) _ rfl (setRow_heap _ w.heap.size _ ip4z _ _ HZ2.out) Try.underlying61 rfl (by kernel_rfl)) rfl ?_
    exact .inl ⟨hR0, rfl, below_setRow HB2.out (Nat.le_refl _) _⟩
end Go.Proofs.Ythjgecdnlpdcdaa
