import Derived.Test.YtlchegibfopglaaK38
import Derived.Test.YtlchegibfopglaaK30
import Derived.Test.YtlchegibfopglaaK31
import Derived.Test.YtlchegibfopglaaK42
/- Layer 7, the program: what is read by the protocol. -/
namespace Go.Proofs.Ytlchegibfopglaa
set_option maxRecDepth 100000
open Go.RowKit
/-- What a protocol's reader tells: all but what stands ahead, and the inner bytes. -/
def PrO (v : Bool) (P : Int) (S D RF : Nat → Int) (NR : Nat) (w : World) (e : Ending) (w' : World) : Prop :=
  (prE v P S D RF NR ≠ 0 ∧ e = .returned (.tuple #[.agg pkz, .int .i64 (prE v P S D RF NR)]) ∧ Below w.heap.size w w') ∨
  (prE v P S D RF NR = 0 ∧ e = .returned (.tuple #[.agg (pkA (eth (fun _ => 0) (fun _ => 0) 0) (pkT v P S D RF NR) (pkL P RF) (pkR P) (.slice none 0 0)), .int .i64 0]) ∧ Below w.heap.size w w')
theorem wpList_pk1 {ops : Array Oper} {rest : List Oper} {op : Oper} {a : Act} {w : World} {Q : Exit → Act → World → Prop} (hw : Region.wanted op (yielded ops a.tmps) = true) (x1 : Operand) (ho : op.op = .build 32 #[(1, x1)])
    (v : Bool) (pr : Int) (s d : Nat → Int) (sp dp : Int) (h1 : a.eval x1 = .agg (tupc v pr s d sp dp))
    (h : wpList Try.prog ops Q rest (a.put op.dst (.agg (pkc (fun _ => 0) (fun _ => 0) 0 v pr s d sp dp 0 false (.slice none 0 0)))) w) : wpList Try.prog ops Q (op :: rest) a w := by
  have hb : (Instr.build 32 #[(1, .agg (tupc v pr s d sp dp))]).run Try.prog w = .ok (.agg (pkc (fun _ => 0) (fun _ => 0) 0 v pr s d sp dp 0 false (.slice none 0 0))) w := by kernel_rfl
  refine BigFrame.wpList_want hw fun K hK => ?_
  unfold Oper.wp execOp
  simp only [ho, List.map_toArray, List.map_cons, List.map_nil, h1, Sem.run_bind, Sem.run_pure, Result.andThen_ok, hb]
  exact hK _ _ h
theorem wpList_pk3 {ops : Array Oper} {rest : List Oper} {op : Oper} {a : Act} {w : World} {Q : Exit → Act → World → Prop} (hw : Region.wanted op (yielded ops a.tmps) = true) (x1 x3 : Operand) (ho : op.op = .build 32 #[(1, x1), (3, x3)])
    (v : Bool) (pr : Int) (s d : Nat → Int) (sp dp : Int) (h1 : a.eval x1 = .agg (tupc v pr s d sp dp)) (h3 : a.eval x3 = .bool true)
    (h : wpList Try.prog ops Q rest (a.put op.dst (.agg (pkc (fun _ => 0) (fun _ => 0) 0 v pr s d sp dp 0 true (.slice none 0 0)))) w) : wpList Try.prog ops Q (op :: rest) a w := by
  have hb : (Instr.build 32 #[(1, .agg (tupc v pr s d sp dp)), (3, .bool true)]).run Try.prog w = .ok (.agg (pkc (fun _ => 0) (fun _ => 0) 0 v pr s d sp dp 0 true (.slice none 0 0))) w := by kernel_rfl
  refine BigFrame.wpList_want hw fun K hK => ?_
  unfold Oper.wp execOp
  simp only [ho, List.map_toArray, List.map_cons, List.map_nil, h1, h3, Sem.run_bind, Sem.run_pure, Result.andThen_ok, hb]
  exact hK _ _ h
theorem build_pk2 (v : Bool) (pr : Int) (s d : Nat → Int) (sp dp fl : Int) (w : World) : (Instr.build 32 #[(1, .agg (tupc v pr s d sp dp)), (2, .int .u8 fl)]).run Try.prog w = .ok (.agg (pkc (fun _ => 0) (fun _ => 0) 0 v pr s d sp dp fl false (.slice none 0 0))) w := by kernel_rfl
set_option maxHeartbeats 4000000 in
theorem prT_any (v : Bool) (S D : Nat → Int) (hS : Byt S) (hD : Byt D) (R : Option Addr) (NR rc : Nat) (z : Int) (RF : Nat → Int) (hRF : Byt RF) (hn : NR ≤ 140737488355) (hcr : NR ≤ rc) (hcr9 : rc ≤ 9223372036854775807) (w : World) (hr : Rd w w.heap.size R NR RF) :
    Calls Try.prog 26 #[.agg (carc v 6 S D (.slice R NR rc) z)] w (PrO v 6 S D RF NR w) := by
  have HR := Lib.hid hr
  have HSB := Lib.hid hS
  have HDB := Lib.hid hD
  have HRB := Lib.hid hRF
  clear hr hS hD hRF
  have e1 : (w.alloc (.cells (carc v 6 S D (.slice R NR rc) z) 48)).heap.size = w.heap.size + 1 := by simp
  have HM1 : Hid (Mem w ((w.alloc (.cells (carc v 6 S D (.slice R NR rc) z) 48)).alloc (.cells pkz 32)) [(w.heap.size, .cells (carc v 6 S D (.slice R NR rc) z) 48 (0, 0)), (w.heap.size + 1, .cells pkz 32 (0, 0))]) := Lib.hid (((Mem.nil w).alloc (.cells (carc v 6 S D (.slice R NR rc) z) 48)).new (.cells pkz 32) (w.heap.size + 1) e1.symm)
  clear e1
  go_enter Try.func26, Try.ntmps26
  go_upto_region 1 with fail
  change Code.wp _ _ _ _ ((w.alloc (.cells (carc v 6 S D (.slice R NR rc) z) 48)).alloc (.cells pkz 32))
  generalize (w.alloc (.cells (carc v 6 S D (.slice R NR rc) z) 48)).alloc (.cells pkz 32) = u1 at *
  have x0 : u1.cell? ⟨w.heap.size, 0, none⟩ = some (.bool v) := blk_cell (HM1.out.get 0 rfl) 0
  have x34 : u1.cell? ⟨w.heap.size, 34, none⟩ = some (.slice R NR rc) := blk_cell (HM1.out.get 0 rfl) 34
  have HTC := Lib.hid (readT_any v S D HSB.out HDB.out R NR rc RF HRB.out (by omega) hcr hcr9 u1 (HM1.out.rd HR.out))
  go_wp2_with (first
    | (refine wpList_load_mid rfl 23 (.tmp 11) rfl w.heap.size 2 rfl (arr16 S).toList _ (blk_range (HM1.out.get 0 rfl) (fun k hk => car_srcs k hk)) Try.underlying23 rfl (by kernel_rfl) ?_)
    | (refine wpList_load_mid rfl 23 (.tmp 13) rfl w.heap.size 18 rfl (arr16 D).toList _ (blk_range (HM1.out.get 0 rfl) (fun k hk => car_dsts k hk)) Try.underlying23 rfl (by kernel_rfl) ?_))
  go_at_call 40
  refine HTC.out.mono ?_
  rintro e u2 hq
  clear HTC x0 x34
  obtain ⟨E6, hE6⟩ : ∃ E, E = tcpE (psq v S D 6 NR) RF NR := ⟨_, rfl⟩
  rw [← hE6] at hq
  have HE6 := Lib.hid hE6
  clear hE6
  rcases hq with ⟨hE, rfl, hb⟩ | ⟨hE, O, co, P2, cp2, rfl, _, _, hb⟩
  · have hne : E6 ≠ 0 := hE
    have hne' : (E6 != 0) = true := by simpa using hE
    have HM2 := Lib.hid (HM1.out.step hb)
    clear hb HM1
    have HN : Hid ((u2.alloc (.cells tcpz 61)).heap[u2.heap.size]? = some (.cells tcpz 61 (0, 0))) := heap_alloc_new u2 _
    go_upto_if 22 with (first
      | (refine wpList_store_row rfl 61 (.tmp 4) (.tmp 18) rfl u2.heap.size tcpz rfl rfl 61 tcpz HN.out (by kernel_rfl) rfl (tcpz_one) ?_))
    change Code.wp _ _ _ _ ((u2.alloc (.cells tcpz 61)).setRow u2.heap.size tcpz)
    obtain ⟨q4, hq⟩ : ∃ q, q = u2.heap.size := ⟨_, rfl⟩
    have HM3 : Hid (Mem w ((u2.alloc (.cells tcpz 61)).setRow q4 tcpz) [(w.heap.size, .cells (carc v 6 S D (.slice R NR rc) z) 48 (0, 0)), (w.heap.size + 1, .cells pkz 32 (0, 0)), (q4, .cells tcpz 61 (0, 0))]) := Lib.hid (HM2.out.newrow tcpz tcpz 61 q4 hq)
    rw [← hq]
    clear hq HN HM2
    generalize (u2.alloc (.cells tcpz 61)).setRow q4 tcpz = u3 at *
    have hpr : prE v 6 S D RF NR = E6 := by rw [HE6.out]; unfold prE; rw [if_pos rfl, if_pos (by rw [← HE6.out]; exact hne)]
    have HPR := Lib.hid hpr
    clear hpr
    go_wp2_with (first
      | (refine wpList_store_row rfl 32 (.tmp 2) (.tmp 23) rfl (w.heap.size + 1) pkz rfl rfl 32 pkz (HM3.out.get 1 rfl) (by kernel_rfl) rfl pkz_one ?_))
    refine bodyPost_ret (v := .tuple #[.agg pkz, .int .i64 E6]) (results_row1 Try.results26 _ _ (w.heap.size + 1) 32 pkz (0, 0) _ rfl (setRow_heap _ (w.heap.size + 1) _ pkz _ _ (HM3.out.get 1 rfl)) Try.underlying32 rfl (by kernel_rfl)) rfl ?_
    refine .inl ⟨?_, ?_, below_setRow HM3.out.below (by omega) _⟩
    · rw [HPR.out]
      first | exact hne | decide
    · rw [HPR.out]
  · have HM2 := Lib.hid (HM1.out.step hb)
    clear hb HM1
    have HN : Hid ((u2.alloc (.cells tcpz 61)).heap[u2.heap.size]? = some (.cells tcpz 61 (0, 0))) := heap_alloc_new u2 _
    go_upto_region 4 with (first
      | (refine wpList_store_row rfl 61 (.tmp 4) (.tmp 18) rfl u2.heap.size (tcpc (w2 RF 0) (w2 RF 2) (w4 RF 4) (w4 RF 8) (RF 12 % 16) (RF 13) (w2 RF 14) (w2 RF 18) (.slice O (tcpO RF) co)) rfl rfl 61 tcpz HN.out (by kernel_rfl) rfl (tcp_one ..) ?_))
    change Code.wp _ _ _ _ ((u2.alloc (.cells tcpz 61)).setRow u2.heap.size (tcpc (w2 RF 0) (w2 RF 2) (w4 RF 4) (w4 RF 8) (RF 12 % 16) (RF 13) (w2 RF 14) (w2 RF 18) (.slice O (tcpO RF) co)))
    obtain ⟨q4, hq⟩ : ∃ q, q = u2.heap.size := ⟨_, rfl⟩
    have HM3 : Hid (Mem w ((u2.alloc (.cells tcpz 61)).setRow q4 (tcpc (w2 RF 0) (w2 RF 2) (w4 RF 4) (w4 RF 8) (RF 12 % 16) (RF 13) (w2 RF 14) (w2 RF 18) (.slice O (tcpO RF) co))) [(w.heap.size, .cells (carc v 6 S D (.slice R NR rc) z) 48 (0, 0)), (w.heap.size + 1, .cells pkz 32 (0, 0)), (q4, .cells (tcpc (w2 RF 0) (w2 RF 2) (w4 RF 4) (w4 RF 8) (RF 12 % 16) (RF 13) (w2 RF 14) (w2 RF 18) (.slice O (tcpO RF) co)) 61 (0, 0))]) := Lib.hid (HM2.out.newrow tcpz (tcpc (w2 RF 0) (w2 RF 2) (w4 RF 4) (w4 RF 8) (RF 12 % 16) (RF 13) (w2 RF 14) (w2 RF 18) (.slice O (tcpO RF) co)) 61 q4 hq)
    rw [← hq]
    clear hq HN HM2
    generalize (u2.alloc (.cells tcpz 61)).setRow q4 (tcpc (w2 RF 0) (w2 RF 2) (w4 RF 4) (w4 RF 8) (RF 12 % 16) (RF 13) (w2 RF 14) (w2 RF 18) (.slice O (tcpO RF) co)) = u3 at *
    have x5 : u3.cell? ⟨q4, 5, none⟩ = some (.int .u8 (RF 13)) := blk_cell (HM3.out.get 2 rfl) 5
    have HMY := Lib.hid (may_any (RF 13) (HRB.out 13) u3)
    obtain ⟨mb, hmb⟩ : ∃ mb, mb = mayF (RF 13) := ⟨_, rfl⟩
    rw [← hmb] at HMY
    have HMB := Lib.hid hmb
    clear hmb
    have hE6' : tcpE (psq v S D 6 NR) RF NR = 0 := by rw [← HE6.out]; exact hE
    have HE60 := Lib.hid hE6'
    clear hE6'
    go_upto_if 28 with (first
      | (go_at_call 9; refine HMY.out.mono ?_; rintro e w' ⟨rfl, rfl⟩))
    clear HMY x5
    cases mb
    · have hpr : prE v 6 S D RF NR = 5 := by unfold prE; rw [if_pos rfl, if_neg (by rw [HE60.out]; exact fun q => q rfl), if_pos HMB.out.symm]
      have HPR := Lib.hid hpr
      clear hpr
      go_wp2_with (first
        | (refine wpList_store_row rfl 32 (.tmp 2) (.tmp 29) rfl (w.heap.size + 1) pkz rfl rfl 32 pkz (HM3.out.get 1 rfl) (by kernel_rfl) rfl pkz_one ?_))
      refine bodyPost_ret (v := .tuple #[.agg pkz, .int .i64 5]) (results_row1 Try.results26 _ _ (w.heap.size + 1) 32 pkz (0, 0) _ rfl (setRow_heap _ (w.heap.size + 1) _ pkz _ _ (HM3.out.get 1 rfl)) Try.underlying32 rfl (by kernel_rfl)) rfl ?_
      refine .inl ⟨?_, ?_, below_setRow HM3.out.below (by omega) _⟩
      · rw [HPR.out]
        first | exact hne | decide
      · rw [HPR.out]
    · have hpr : prE v 6 S D RF NR = 0 := by unfold prE; rw [if_pos rfl, if_neg (by rw [HE60.out]; exact fun q => q rfl), if_neg (by rw [← HMB.out]; decide)]
      go_upto_region 6 with fail
      refine wp_region_grow (C := fun W => Below u3.heap.size u3 W) 9 39 [val (.agg (carc v 6 S D (.slice R NR rc) z)), val (.pointer (some ⟨q4, 0, none⟩)), val (.int .u16 (w2 RF 0)), val (.pointer (some ⟨q4, 1, none⟩)), val (.int .u16 (w2 RF 2)), val (.agg (tupc v 6 S D (w2 RF 0) (w2 RF 2))), val (.pointer (some ⟨q4, 5, none⟩)), val (.int .u8 (RF 13)), val (.agg (pkc (fun _ => 0) (fun _ => 0) 0 v 6 S D (w2 RF 0) (w2 RF 2) (RF 13) false (.slice none 0 0)))] (by kernel_rfl) rfl (by kernel_rfl) rfl ⟨stb_val _, stb_val _, stb_val _, stb_val _, stb_val _, stb_val _, stb_val _, stb_val _, stb_val _, trivial⟩ (Below.refl _ _).drew ?_ ?_
      · refine each_cons ?_ ?_
        · intro a W hW hd
          have h1 : a.tmps[1]?.getD undef = .pointer (some ⟨w.heap.size, 0, none⟩) := slot_eq (hd 1 (by decide))
          refine grows_value (.agg (carc v 6 S D (.slice R NR rc) z)) hW (?_ : _ = _) rfl
          clear hd
          simp only [execOp, Act.eval, Array.getD_eq_getD_getElem?, h1, Instr.loadAt, Instr.sureAddr, Sem.run_bind, Sem.run_pure, Result.andThen_ok, run_loadVar_row W w.heap.size 48 48 (carc v 6 S D (.slice R NR rc) z) (0, 0) _ ((hW.block _ (lt_heap (HM3.out.get 0 rfl))).trans (HM3.out.get 0 rfl)) Try.underlying48 rfl (by kernel_rfl)]
        refine each_cons ?_ ?_
        · intro a W hW hd
          have h4 : a.tmps[4]?.getD undef = .pointer (some ⟨q4, 0, none⟩) := slot_eq (hd 4 (by decide))
          refine grows_value _ hW (?_ : _ = _) rfl
          clear hd
          go_simp
        refine each_cons ?_ ?_
        · intro a W hW hd
          have h31 : a.tmps[31]?.getD undef = .pointer (some ⟨q4, 0, none⟩) := slot_eq (hd 31 (by decide))
          have xx : W.cell? ⟨q4, 0, none⟩ = some (.int .u16 (w2 RF 0)) := (hW.cell (p := ⟨q4, 0, none⟩) (lt_heap (HM3.out.get 2 rfl))).trans (blk_cell (HM3.out.get 2 rfl) 0)
          refine grows_value _ hW (?_ : _ = _) rfl
          clear hd
          go_simp
        refine each_cons ?_ ?_
        · intro a W hW hd
          have h4 : a.tmps[4]?.getD undef = .pointer (some ⟨q4, 0, none⟩) := slot_eq (hd 4 (by decide))
          refine grows_value _ hW (?_ : _ = _) rfl
          clear hd
          go_simp
        refine each_cons ?_ ?_
        · intro a W hW hd
          have h33 : a.tmps[33]?.getD undef = .pointer (some ⟨q4, 1, none⟩) := slot_eq (hd 33 (by decide))
          have xx : W.cell? ⟨q4, 1, none⟩ = some (.int .u16 (w2 RF 2)) := (hW.cell (p := ⟨q4, 1, none⟩) (lt_heap (HM3.out.get 2 rfl))).trans (blk_cell (HM3.out.get 2 rfl) 1)
          refine grows_value _ hW (?_ : _ = _) rfl
          clear hd
          go_simp
        refine each_cons ?_ ?_
        · intro a W hW hd
          have h30 : a.tmps[30]?.getD undef = .agg (carc v 6 S D (.slice R NR rc) z) := slot_eq (hd 30 (by decide))
          have h32 : a.tmps[32]?.getD undef = .int .u16 (w2 RF 0) := slot_eq (hd 32 (by decide))
          have h34 : a.tmps[34]?.getD undef = .int .u16 (w2 RF 2) := slot_eq (hd 34 (by decide))
          refine grows_call (fn := 41) (args := #[.agg (carc v 6 S D (.slice R NR rc) z), .int .u16 (w2 RF 0), .int .u16 (w2 RF 2)]) ?_ ?_
          · clear hd
            go_simp
          · refine (flow_any v 6 S D R NR rc z (w2 RF 0) (w2 RF 2) W).mono ?_
            rintro e w' ⟨he, hb⟩
            exact ⟨_, he, rfl, hb, hW.trans (hb.mono hW.size)⟩
        refine each_cons ?_ ?_
        · intro a W hW hd
          have h4 : a.tmps[4]?.getD undef = .pointer (some ⟨q4, 0, none⟩) := slot_eq (hd 4 (by decide))
          refine grows_value _ hW (?_ : _ = _) rfl
          clear hd
          go_simp
        refine each_cons ?_ ?_
        · intro a W hW hd
          have h36 : a.tmps[36]?.getD undef = .pointer (some ⟨q4, 5, none⟩) := slot_eq (hd 36 (by decide))
          have xx : W.cell? ⟨q4, 5, none⟩ = some (.int .u8 (RF 13)) := (hW.cell (p := ⟨q4, 5, none⟩) (lt_heap (HM3.out.get 2 rfl))).trans (blk_cell (HM3.out.get 2 rfl) 5)
          refine grows_value _ hW (?_ : _ = _) rfl
          clear hd
          go_simp
        refine each_cons ?_ ?_
        · intro a W hW hd
          have h35 : a.tmps[35]?.getD undef = .agg (tupc v 6 S D (w2 RF 0) (w2 RF 2)) := slot_eq (hd 35 (by decide))
          have h37 : a.tmps[37]?.getD undef = .int .u8 (RF 13) := slot_eq (hd 37 (by decide))
          refine grows_value (.agg (pkc (fun _ => 0) (fun _ => 0) 0 v 6 S D (w2 RF 0) (w2 RF 2) (RF 13) false (.slice none 0 0))) hW (?_ : _ = _) rfl
          have hb := build_pk2 v 6 S D (w2 RF 0) (w2 RF 2) (RF 13) W
          clear hd
          simp [execOp, Act.eval, h35, h37, hb]
        exact each_nil
      · refine behind_val rfl ?_
        refine behind_val rfl ?_
        refine behind_val rfl ?_
        refine behind_val rfl ?_
        refine behind_val rfl ?_
        refine behind_val rfl ?_
        refine behind_val rfl ?_
        refine behind_val rfl ?_
        refine behind_val rfl ?_
        refine behind_nil fun W1 hCW1 hFW1 => ?_
        simp only [Act.put, List.setIfInBounds_toArray, List.set_cons_succ, List.set_cons_zero, List.drop_succ_cons, List.drop_zero]
        have HM4 := Lib.hid (HM3.out.step hCW1)
        clear hFW1 hCW1 HM3
        go_wp2_with (first
          | (refine wpList_store_row rfl 32 (.tmp 2) (.tmp 38) rfl (w.heap.size + 1) (pkc (fun _ => 0) (fun _ => 0) 0 v 6 S D (w2 RF 0) (w2 RF 2) (RF 13) false (.slice none 0 0)) rfl rfl 32 pkz (HM4.out.get 1 rfl) (by kernel_rfl) rfl (pk_one ..) ?_))
        refine bodyPost_ret (v := .tuple #[.agg (pkc (fun _ => 0) (fun _ => 0) 0 v 6 S D (w2 RF 0) (w2 RF 2) (RF 13) false (.slice none 0 0)), .int .i64 0]) (results_row1 Try.results26 _ _ (w.heap.size + 1) 32 (pkc (fun _ => 0) (fun _ => 0) 0 v 6 S D (w2 RF 0) (w2 RF 2) (RF 13) false (.slice none 0 0)) (0, 0) _ rfl (setRow_heap _ (w.heap.size + 1) _ (pkc (fun _ => 0) (fun _ => 0) 0 v 6 S D (w2 RF 0) (w2 RF 2) (RF 13) false (.slice none 0 0)) _ _ (HM4.out.get 1 rfl)) Try.underlying32 rfl (by kernel_rfl)) rfl ?_
        refine .inr ⟨hpr, ?_, below_setRow HM4.out.below (by omega) _⟩
        · rw [← pkA_is]
          rfl
set_option maxHeartbeats 4000000 in
theorem prU_any (v : Bool) (S D : Nat → Int) (hS : Byt S) (hD : Byt D) (R : Option Addr) (NR rc : Nat) (z : Int) (RF : Nat → Int) (hRF : Byt RF) (hn : NR ≤ 140737488355) (hcr : NR ≤ rc) (hcr9 : rc ≤ 9223372036854775807) (w : World) (hr : Rd w w.heap.size R NR RF) :
    Calls Try.prog 27 #[.agg (carc v 17 S D (.slice R NR rc) z)] w (PrO v 17 S D RF NR w) := by
  have HR := Lib.hid hr
  have HSB := Lib.hid hS
  have HDB := Lib.hid hD
  have HRB := Lib.hid hRF
  clear hr hS hD hRF
  have e1 : (w.alloc (.cells (carc v 17 S D (.slice R NR rc) z) 48)).heap.size = w.heap.size + 1 := by simp
  have HM1 : Hid (Mem w ((w.alloc (.cells (carc v 17 S D (.slice R NR rc) z) 48)).alloc (.cells pkz 32)) [(w.heap.size, .cells (carc v 17 S D (.slice R NR rc) z) 48 (0, 0)), (w.heap.size + 1, .cells pkz 32 (0, 0))]) := Lib.hid (((Mem.nil w).alloc (.cells (carc v 17 S D (.slice R NR rc) z) 48)).new (.cells pkz 32) (w.heap.size + 1) e1.symm)
  clear e1
  go_enter Try.func27, Try.ntmps27
  go_upto_region 1 with fail
  change Code.wp _ _ _ _ ((w.alloc (.cells (carc v 17 S D (.slice R NR rc) z) 48)).alloc (.cells pkz 32))
  generalize (w.alloc (.cells (carc v 17 S D (.slice R NR rc) z) 48)).alloc (.cells pkz 32) = u1 at *
  have x0 : u1.cell? ⟨w.heap.size, 0, none⟩ = some (.bool v) := blk_cell (HM1.out.get 0 rfl) 0
  have x34 : u1.cell? ⟨w.heap.size, 34, none⟩ = some (.slice R NR rc) := blk_cell (HM1.out.get 0 rfl) 34
  have HTC := Lib.hid (readU_any v S D HSB.out HDB.out R NR rc RF HRB.out (by omega) hcr hcr9 u1 (HM1.out.rd HR.out))
  go_wp2_with (first
    | (refine wpList_load_mid rfl 23 (.tmp 11) rfl w.heap.size 2 rfl (arr16 S).toList _ (blk_range (HM1.out.get 0 rfl) (fun k hk => car_srcs k hk)) Try.underlying23 rfl (by kernel_rfl) ?_)
    | (refine wpList_load_mid rfl 23 (.tmp 13) rfl w.heap.size 18 rfl (arr16 D).toList _ (blk_range (HM1.out.get 0 rfl) (fun k hk => car_dsts k hk)) Try.underlying23 rfl (by kernel_rfl) ?_))
  go_at_call 42
  refine HTC.out.mono ?_
  rintro e u2 hq
  clear HTC x0 x34
  obtain ⟨E6, hE6⟩ : ∃ E, E = udpE v (psq v S D 17 NR) RF NR := ⟨_, rfl⟩
  rw [← hE6] at hq
  have hpr : prE v 17 S D RF NR = E6 := by rw [hE6]; unfold prE; rw [if_neg (by decide), if_pos rfl]
  have HPR := Lib.hid hpr
  clear hE6 hpr
  rcases hq with ⟨hE, rfl, hb⟩ | ⟨hE, P2, cp2, rfl, _, hb⟩
  · have hne : E6 ≠ 0 := hE
    have hne' : (E6 != 0) = true := by simpa using hE
    have HM2 := Lib.hid (HM1.out.step hb)
    clear hb HM1
    have HN : Hid ((u2.alloc (.cells udpz 65)).heap[u2.heap.size]? = some (.cells udpz 65 (0, 0))) := heap_alloc_new u2 _
    go_upto_if 22 with (first
      | (refine wpList_store_row rfl 65 (.tmp 4) (.tmp 18) rfl u2.heap.size udpz rfl rfl 65 udpz HN.out (by kernel_rfl) rfl (udp_one ..) ?_))
    change Code.wp _ _ _ _ ((u2.alloc (.cells udpz 65)).setRow u2.heap.size udpz)
    obtain ⟨q4, hq⟩ : ∃ q, q = u2.heap.size := ⟨_, rfl⟩
    have HM3 : Hid (Mem w ((u2.alloc (.cells udpz 65)).setRow q4 udpz) [(w.heap.size, .cells (carc v 17 S D (.slice R NR rc) z) 48 (0, 0)), (w.heap.size + 1, .cells pkz 32 (0, 0)), (q4, .cells udpz 65 (0, 0))]) := Lib.hid (HM2.out.newrow udpz udpz 65 q4 hq)
    rw [← hq]
    clear hq HN HM2
    generalize (u2.alloc (.cells udpz 65)).setRow q4 udpz = u3 at *
    go_wp2_with (first
      | (refine wpList_store_row rfl 32 (.tmp 2) (.tmp 23) rfl (w.heap.size + 1) pkz rfl rfl 32 pkz (HM3.out.get 1 rfl) (by kernel_rfl) rfl pkz_one ?_))
    refine bodyPost_ret (v := .tuple #[.agg pkz, .int .i64 E6]) (results_row1 Try.results27 _ _ (w.heap.size + 1) 32 pkz (0, 0) _ rfl (setRow_heap _ (w.heap.size + 1) _ pkz _ _ (HM3.out.get 1 rfl)) Try.underlying32 rfl (by kernel_rfl)) rfl ?_
    refine .inl ⟨?_, ?_, below_setRow HM3.out.below (by omega) _⟩
    · rw [HPR.out]
      first | exact hne | decide
    · rw [HPR.out]
  · have HM2 := Lib.hid (HM1.out.step hb)
    clear hb HM1
    have HN : Hid ((u2.alloc (.cells udpz 65)).heap[u2.heap.size]? = some (.cells udpz 65 (0, 0))) := heap_alloc_new u2 _
    go_upto_region 4 with (first
      | (refine wpList_store_row rfl 65 (.tmp 4) (.tmp 18) rfl u2.heap.size (udpc (w2 RF 0) (w2 RF 2) (decide (w2 RF 6 = 0))) rfl rfl 65 udpz HN.out (by kernel_rfl) rfl (udp_one ..) ?_))
    change Code.wp _ _ _ _ ((u2.alloc (.cells udpz 65)).setRow u2.heap.size (udpc (w2 RF 0) (w2 RF 2) (decide (w2 RF 6 = 0))))
    obtain ⟨q4, hq⟩ : ∃ q, q = u2.heap.size := ⟨_, rfl⟩
    have HM3 : Hid (Mem w ((u2.alloc (.cells udpz 65)).setRow q4 (udpc (w2 RF 0) (w2 RF 2) (decide (w2 RF 6 = 0)))) [(w.heap.size, .cells (carc v 17 S D (.slice R NR rc) z) 48 (0, 0)), (w.heap.size + 1, .cells pkz 32 (0, 0)), (q4, .cells (udpc (w2 RF 0) (w2 RF 2) (decide (w2 RF 6 = 0))) 65 (0, 0))]) := Lib.hid (HM2.out.newrow udpz (udpc (w2 RF 0) (w2 RF 2) (decide (w2 RF 6 = 0))) 65 q4 hq)
    rw [← hq]
    clear hq HN HM2
    generalize (u2.alloc (.cells udpz 65)).setRow q4 (udpc (w2 RF 0) (w2 RF 2) (decide (w2 RF 6 = 0))) = u3 at *
    have x0 : u3.cell? ⟨q4, 0, none⟩ = some (.int .u16 (w2 RF 0)) := blk_cell (HM3.out.get 2 rfl) 0
    have x1 : u3.cell? ⟨q4, 1, none⟩ = some (.int .u16 (w2 RF 2)) := blk_cell (HM3.out.get 2 rfl) 1
    have HFL := Lib.hid (flow_any v 17 S D R NR rc z (w2 RF 0) (w2 RF 2) u3)
    go_wp2_with (first
      | (refine wpList_load_row rfl 48 (.tmp 1) rfl w.heap.size rfl 48 (carc v 17 S D (.slice R NR rc) z) (0, 0) _ (HM3.out.get 0 rfl) Try.underlying48 rfl (by kernel_rfl) ?_))
    go_at_call 41
    refine HFL.out.mono ?_
    rintro e u4 ⟨rfl, hb⟩
    have HM4 := Lib.hid (HM3.out.step hb)
    clear hb HM3 HFL x0 x1
    go_wp2_with (first
      | (refine wpList_pk1 rfl (.tmp 30) rfl v 17 S D (w2 RF 0) (w2 RF 2) rfl ?_)
      | (refine wpList_store_row rfl 32 (.tmp 2) (.tmp 31) rfl (w.heap.size + 1) (pkc (fun _ => 0) (fun _ => 0) 0 v 17 S D (w2 RF 0) (w2 RF 2) 0 false (.slice none 0 0)) rfl rfl 32 pkz (HM4.out.get 1 rfl) (by kernel_rfl) rfl (pk_one ..) ?_))
    refine bodyPost_ret (v := .tuple #[.agg (pkc (fun _ => 0) (fun _ => 0) 0 v 17 S D (w2 RF 0) (w2 RF 2) 0 false (.slice none 0 0)), .int .i64 0]) (results_row1 Try.results27 _ _ (w.heap.size + 1) 32 (pkc (fun _ => 0) (fun _ => 0) 0 v 17 S D (w2 RF 0) (w2 RF 2) 0 false (.slice none 0 0)) (0, 0) _ rfl (setRow_heap _ (w.heap.size + 1) _ (pkc (fun _ => 0) (fun _ => 0) 0 v 17 S D (w2 RF 0) (w2 RF 2) 0 false (.slice none 0 0)) _ _ (HM4.out.get 1 rfl)) Try.underlying32 rfl (by kernel_rfl)) rfl ?_
    refine .inr ⟨HPR.out.trans hE, ?_, below_setRow HM4.out.below (by omega) _⟩
    · rw [← pkA_is]
      rfl
set_option maxHeartbeats 4000000 in
theorem prI_any (v : Bool) (P : Int) (S D : Nat → Int) (hS : Byt S) (hD : Byt D) (R : Option Addr) (NR rc : Nat) (z : Int) (RF : Nat → Int) (hRF : Byt RF) (hn : NR ≤ 140737488355) (hcr : NR ≤ rc) (hcr9 : rc ≤ 9223372036854775807) (hP6 : P ≠ 6) (hP17 : P ≠ 17) (hic : icP v P = true) (w : World) (hr : Rd w w.heap.size R NR RF) :
    Calls Try.prog 28 #[.agg (carc v P S D (.slice R NR rc) z)] w (PrO v P S D RF NR w) := by
  have HR := Lib.hid hr
  have HSB := Lib.hid hS
  have HDB := Lib.hid hD
  have HRB := Lib.hid hRF
  have HIC0 := Lib.hid hic
  have H6 := Lib.hid hP6
  have H17 := Lib.hid hP17
  clear hic hP6 hP17
  clear hr hS hD hRF
  have e1 : (w.alloc (.cells (carc v P S D (.slice R NR rc) z) 48)).heap.size = w.heap.size + 1 := by simp
  have HM1 : Hid (Mem w ((w.alloc (.cells (carc v P S D (.slice R NR rc) z) 48)).alloc (.cells pkz 32)) [(w.heap.size, .cells (carc v P S D (.slice R NR rc) z) 48 (0, 0)), (w.heap.size + 1, .cells pkz 32 (0, 0))]) := Lib.hid (((Mem.nil w).alloc (.cells (carc v P S D (.slice R NR rc) z) 48)).new (.cells pkz 32) (w.heap.size + 1) e1.symm)
  clear e1
  go_enter Try.func28, Try.ntmps28
  go_upto_region 1 with fail
  change Code.wp _ _ _ _ ((w.alloc (.cells (carc v P S D (.slice R NR rc) z) 48)).alloc (.cells pkz 32))
  generalize (w.alloc (.cells (carc v P S D (.slice R NR rc) z) 48)).alloc (.cells pkz 32) = u1 at *
  have x0 : u1.cell? ⟨w.heap.size, 0, none⟩ = some (.bool v) := blk_cell (HM1.out.get 0 rfl) 0
  have x34 : u1.cell? ⟨w.heap.size, 34, none⟩ = some (.slice R NR rc) := blk_cell (HM1.out.get 0 rfl) 34
  have HIC := Lib.hid (iread_any v S D HSB.out HDB.out R NR rc RF HRB.out (by omega) hcr hcr9 u1 (HM1.out.rd HR.out))
  obtain ⟨SM, hSM⟩ : ∃ SM, SM = mS v S D NR := ⟨_, rfl⟩
  rw [← hSM] at HIC
  have HSM := Lib.hid hSM
  clear hSM
  unfold RdOut at HIC
  obtain ⟨CR, hCR⟩ : ∃ CR, CR = rT v SM RF NR := ⟨_, rfl⟩
  obtain ⟨EI, hEI⟩ : ∃ EI, EI = icE v SM RF NR := ⟨_, rfl⟩
  rw [← hCR, ← hEI] at HIC
  have HCR := Lib.hid hCR
  have HEI := Lib.hid hEI
  have HSZ : Hid (CR.size = 38) := Lib.hid (by rw [hCR]; exact rT_size ..)
  have HON : Hid (CR.all (·.oneCell') = true) := Lib.hid (by rw [hCR]; exact rT_one ..)
  have HI38 := Lib.hid (show (Try.prog.info? 69).map (·.size) = some 38 by kernel_rfl)
  clear hCR hEI
  go_wp2_with (first
    | (refine wpList_load_mid rfl 23 (.tmp 10) rfl w.heap.size 2 rfl (arr16 S).toList _ (blk_range (HM1.out.get 0 rfl) (fun k hk => car_srcs k hk)) Try.underlying23 rfl (by kernel_rfl) ?_)
    | (refine wpList_load_mid rfl 23 (.tmp 12) rfl w.heap.size 18 rfl (arr16 D).toList _ (blk_range (HM1.out.get 0 rfl) (fun k hk => car_dsts k hk)) Try.underlying23 rfl (by kernel_rfl) ?_))
  go_at_call 43
  refine HIC.out.mono ?_
  rintro e u2 ⟨rfl, hb⟩
  clear HIC x0 x34
  have HM2 := Lib.hid (HM1.out.step hb)
  clear hb HM1
  have HN : Hid ((u2.alloc (.cells repz 69)).heap[u2.heap.size]? = some (.cells repz 69 (0, 0))) := heap_alloc_new u2 _
  go_upto_if 20 with (first
    | (refine wpList_store_row rfl 69 (.tmp 4) (.tmp 17) rfl u2.heap.size CR rfl rfl 69 repz HN.out (HI38.out.trans (by rw [HSZ.out])) (by rw [HSZ.out]; rfl) HON.out ?_))
  change Code.wp _ _ _ _ ((u2.alloc (.cells repz 69)).setRow u2.heap.size CR)
  obtain ⟨q4, hq⟩ : ∃ q, q = u2.heap.size := ⟨_, rfl⟩
  have HM3 : Hid (Mem w ((u2.alloc (.cells repz 69)).setRow q4 CR) [(w.heap.size, .cells (carc v P S D (.slice R NR rc) z) 48 (0, 0)), (w.heap.size + 1, .cells pkz 32 (0, 0)), (q4, .cells CR 69 (0, 0))]) := Lib.hid (HM2.out.newrow repz CR 69 q4 hq)
  rw [← hq]
  clear hq HN HM2
  generalize (u2.alloc (.cells repz 69)).setRow q4 CR = u3 at *
  by_cases hE0 : EI = 0
  · have hcr2 : CR = repT (RF 0) (RF 1) (wT v (fun k => RF (8 + k)) (NR - 8)) := HCR.out.trans (rT_ok (HEI.out.symm.trans hE0))
    have hpt : pkT v P S D RF NR = wT v (fun k => RF (8 + k)) (NR - 8) := by
      unfold pkT
      rw [if_neg (fun q => by rcases q with q | q; exact H6.out q; exact H17.out q)]
    obtain ⟨hn8, hw0⟩ := icE_ok (v6 := v) (S := SM) (f := RF) (n := NR) (HEI.out.symm.trans hE0)
    obtain ⟨aw, Pw, hww, _, _, _⟩ := winE_ok hw0
    rw [wT_ok hw0 hww] at hcr2 hpt
    obtain ⟨WS, hWS⟩ : ∃ WS, WS = winS v (fun k => RF (8 + k)) := ⟨_, rfl⟩
    obtain ⟨WD, hWD⟩ : ∃ WD, WD = winD v (fun k => RF (8 + k)) := ⟨_, rfl⟩
    obtain ⟨pA, hpA⟩ : ∃ p, p = w2 (fun k => RF (8 + k)) (aw + 2) := ⟨_, rfl⟩
    obtain ⟨pB, hpB⟩ : ∃ p, p = w2 (fun k => RF (8 + k)) aw := ⟨_, rfl⟩
    rw [← hWS, ← hWD, ← hpA, ← hpB] at hcr2 hpt
    subst hcr2
    have HPT := Lib.hid hpt
    have hpr2 : prE v P S D RF NR = if eqs WD D 0 16 = false then 5 else 0 := by
      unfold prE
      rw [if_neg H6.out, if_neg H17.out, if_pos HIC0.out, ← HSM.out, if_neg (by rw [← HEI.out, hE0]; exact fun q => q rfl), hWD]
    have hE0' : (EI != 0) = false := by simp [hE0]
    have heq : ∀ W, (Op.equalIn 10000 23 (.agg (arr16 WD)) (.agg (arr16 D))).run Try.prog W = .ok (eqs WD D 0 16) W := fun W => equal16 23 5 Try.underlying23 Try.underlying5 (by kernel_rfl) WD D W
    obtain ⟨eb, heb⟩ : ∃ eb, eb = eqs WD D 0 16 := ⟨_, rfl⟩
    rw [← heb] at heq hpr2
    have HPR2 := Lib.hid hpr2
    clear hpt hw0 hww hn8 hWS hWD hpA hpB hE0 hpr2 heb HCR HSZ HON HI38
    go_upto_if 28 with (first
      | (refine wpList_load_a16 rfl 23 (.tmp 24) rfl q4 20 rfl WD (blk_range (HM3.out.get 2 rfl) (fun k hk => rep_dsts _ _ _ _ _ _ _ _ k hk)) Try.underlying23 rfl (by kernel_rfl) ?_)
      | (refine wpList_load_a16 rfl 23 (.tmp 26) rfl w.heap.size 18 rfl D (blk_range (HM3.out.get 0 rfl) (fun k hk => car_dsts k hk)) Try.underlying23 rfl (by kernel_rfl) ?_))
    clear heq
    cases eb
    · have hpr : prE v P S D RF NR = 5 := HPR2.out.trans (by rw [if_pos rfl])
      have HPR := Lib.hid hpr
      clear hpr
      go_wp2_with (first
        | (refine wpList_store_row rfl 32 (.tmp 2) (.tmp 29) rfl (w.heap.size + 1) pkz rfl rfl 32 pkz (HM3.out.get 1 rfl) (by kernel_rfl) rfl pkz_one ?_))
      refine bodyPost_ret (v := .tuple #[.agg pkz, .int .i64 5]) (results_row1 Try.results28 _ _ (w.heap.size + 1) 32 pkz (0, 0) _ rfl (setRow_heap _ (w.heap.size + 1) _ pkz _ _ (HM3.out.get 1 rfl)) Try.underlying32 rfl (by kernel_rfl)) rfl ?_
      refine .inl ⟨?_, ?_, below_setRow HM3.out.below (by omega) _⟩
      · rw [HPR.out]
        first | exact hne | decide
      · rw [HPR.out]
    · have hpr : prE v P S D RF NR = 0 := HPR2.out.trans (by rw [if_neg (by decide)])
      have HPR := Lib.hid hpr
      clear hpr
      have HXR : Hid (u3.rangeAt q4 2 (tupc v Pw WS WD pA pB).toList) := Lib.hid (rep_range _ _ _ (HM3.out.get 2 rfl))
      go_wp2_with (first
        | (refine wpList_load_mid rfl 26 (.tmp 30) rfl q4 2 rfl (tupc v Pw WS WD pA pB).toList _ HXR.out Try.underlying26 rfl (by kernel_rfl) ?_)
        | (refine wpList_pk3 rfl (.tmp 31) (.const (.bool true)) rfl v Pw WS WD pA pB rfl rfl ?_)
        | (refine wpList_store_row rfl 32 (.tmp 2) (.tmp 32) rfl (w.heap.size + 1) (pkc (fun _ => 0) (fun _ => 0) 0 v Pw WS WD pA pB 0 true (.slice none 0 0)) rfl rfl 32 pkz (HM3.out.get 1 rfl) (by kernel_rfl) rfl (pk_one ..) ?_))
      refine bodyPost_ret (v := .tuple #[.agg (pkc (fun _ => 0) (fun _ => 0) 0 v Pw WS WD pA pB 0 true (.slice none 0 0)), .int .i64 0]) (results_row1 Try.results28 _ _ (w.heap.size + 1) 32 (pkc (fun _ => 0) (fun _ => 0) 0 v Pw WS WD pA pB 0 true (.slice none 0 0)) (0, 0) _ rfl (setRow_heap _ (w.heap.size + 1) _ (pkc (fun _ => 0) (fun _ => 0) 0 v Pw WS WD pA pB 0 true (.slice none 0 0)) _ _ (HM3.out.get 1 rfl)) Try.underlying32 rfl (by kernel_rfl)) rfl ?_
      refine .inr ⟨HPR.out, ?_, below_setRow HM3.out.below (by omega) _⟩
      · rw [HPT.out, show pkL P RF = 0 by unfold pkL; rw [if_neg H6.out], show pkR P = true by unfold pkR; simp [H6.out, H17.out], pkA_is]
  · have hne : EI ≠ 0 := hE0
    have hne' : (EI != 0) = true := by simpa using hE0
    have hpr : prE v P S D RF NR = EI := by unfold prE; rw [if_neg H6.out, if_neg H17.out, if_pos HIC0.out, ← HSM.out, if_pos (by rw [← HEI.out]; exact hne)]; exact HEI.out.symm
    have HPR := Lib.hid hpr
    clear hpr hE0
    go_wp2_with (first
      | (refine wpList_store_row rfl 32 (.tmp 2) (.tmp 21) rfl (w.heap.size + 1) pkz rfl rfl 32 pkz (HM3.out.get 1 rfl) (by kernel_rfl) rfl pkz_one ?_))
    refine bodyPost_ret (v := .tuple #[.agg pkz, .int .i64 EI]) (results_row1 Try.results28 _ _ (w.heap.size + 1) 32 pkz (0, 0) _ rfl (setRow_heap _ (w.heap.size + 1) _ pkz _ _ (HM3.out.get 1 rfl)) Try.underlying32 rfl (by kernel_rfl)) rfl ?_
    refine .inl ⟨?_, ?_, below_setRow HM3.out.below (by omega) _⟩
    · rw [HPR.out]
      first | exact hne | decide
    · rw [HPR.out]
end Go.Proofs.Ytlchegibfopglaa
