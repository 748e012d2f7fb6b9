import Derived.Test.YtlchegibfopglaaK38
import Derived.Test.YtlchegibfopglaaK28
import Derived.Test.YtlchegibfopglaaK24
/- Layer 7, the program: carrierOf. -/
namespace Go.Proofs.Ytlchegibfopglaa
set_option maxRecDepth 100000
open Go.RowKit
theorem wpList_car {ops : Array Oper} {rest : List Oper} {op : Oper} {a : Act} {w : World} {Q : Exit → Act → World → Prop} (hw : Region.wanted op (yielded ops a.tmps) = true) (x0 x1 x2 x3 x4 : Operand) (ho : op.op = .build 48 #[(0, x0), (1, x1), (2, x2), (3, x3), (4, x4)])
    (v : Bool) (pr : Int) (s d : Nat → Int) (A : Option Addr) (n c : Nat) (z : Int) (h0 : a.eval x0 = .agg #[.bool v, .int .u8 pr]) (h1 : a.eval x1 = .agg (arr16 s)) (h2 : a.eval x2 = .agg (arr16 d)) (h3 : a.eval x3 = .slice A n c) (h4 : a.eval x4 = .int .i64 z)
    (h : wpList Try.prog ops Q rest (a.put op.dst (.agg (carc v pr s d (.slice A n c) z))) w) : wpList Try.prog ops Q (op :: rest) a w := by
  have hb : (Instr.build 48 #[(0, .agg #[.bool v, .int .u8 pr]), (1, .agg (arr16 s)), (2, .agg (arr16 d)), (3, .slice A n c), (4, .int .i64 z)]).run Try.prog w = .ok (.agg (carc v pr s d (.slice A n c) z)) w := by kernel_rfl
  refine BigFrame.wpList_want hw fun K hK => ?_
  unfold Oper.wp execOp
  simp only [ho, List.map_toArray, List.map_cons, List.map_nil, h0, h1, h2, h3, h4, Sem.run_bind, Sem.run_pure, Result.andThen_ok, hb]
  exact hK _ _ h
/-- What carrierOf tells. -/
def CaO (v6 : Bool) (g : Nat → Int) (m : Nat) (w : World) (e : Ending) (w' : World) : Prop :=
  (otE v6 g m ≠ 0 ∧ e = .returned (.tuple #[.agg carz, .int .i64 (otE v6 g m)]) ∧ Below w.heap.size w w') ∨
  (otE v6 g m = 0 ∧ ∃ R rc, e = .returned (.tuple #[.agg (carc v6 (otP v6 g) (otS v6 g) (otD v6 g) (.slice R (otR v6 g) rc) ((otI v6 g : Nat) : Int)), .int .i64 0]) ∧
    Own w' w.heap.size 5 R (otR v6 g) rc (otF v6 g) ∧ Below w.heap.size w w')
set_option maxHeartbeats 2000000 in
theorem car_true (A : Option Addr) (m c : Nat) (g : Nat → Int) (hg : Byt g) (hm : m ≤ 140737488355) (hcap : m ≤ c) (hc' : c ≤ 9223372036854775807) (w : World) (hr : Rd w w.heap.size A m g) :
    Calls Try.prog 16 #[.bool true, .slice A m c] w (CaO true g m w) := by
  have HR := Lib.hid hr
  have HF := Lib.hid hg
  clear hr hg
  have HM1 : Hid (Mem w (w.alloc (.cells carz 48)) [(w.heap.size, .cells carz 48 (0, 0))]) := Lib.hid ((Mem.nil w).alloc (.cells carz 48))
  go_enter Try.func16, Try.ntmps16
  go_upto_region 2 with fail
  change Code.wp _ _ _ _ (w.alloc (.cells carz 48))
  generalize w.alloc (.cells carz 48) = u1 at *
  have HRD := Lib.hid (read6_any A m c g HF.out (by omega) hcap hc' u1 (HM1.out.rd HR.out))
  go_wp2_with fail
  go_at_call 24
  refine HRD.out.mono ?_
  rintro e u2 hq
  clear HRD
  rcases hq with ⟨hE, rfl, hb2⟩ | ⟨hE, hq⟩
  · have hE' : (rd6E g m != 0) = true := by simpa using hE
    have HE := Lib.hid hE
    obtain ⟨E, hEE⟩ : ∃ E, E = rd6E g m := ⟨_, rfl⟩
    rw [← hEE] at hE' ⊢
    have HEE := Lib.hid hEE
    clear hEE hE
    have HM2 := Lib.hid (HM1.out.step hb2)
    have HQ : Hid ((u2.alloc (.cells ip6z 75)).heap[u2.heap.size]? = some (.cells ip6z 75 (0, 0))) := heap_alloc_new u2 _
    go_upto_if 20 with (first
      | (refine wpList_store_row rfl 75 (.tmp 6) (.tmp 16) rfl u2.heap.size ip6z rfl rfl 75 ip6z HQ.out (by kernel_rfl) rfl (ip6_one ..) ?_))
    change Code.wp _ _ _ _ ((u2.alloc (.cells ip6z 75)).setRow u2.heap.size ip6z)
    obtain ⟨q, hq⟩ : ∃ q, q = u2.heap.size := ⟨_, rfl⟩
    have HM3 : Hid (Mem w ((u2.alloc (.cells ip6z 75)).setRow q ip6z) [(w.heap.size, .cells carz 48 (0, 0)), (q, .cells ip6z 75 (0, 0))]) := Lib.hid ((HM2.out.new (.cells ip6z 75) q hq).row 1 rfl ip6z)
    rw [← hq]
    clear hq HQ HM2 HM1 hb2
    generalize (u2.alloc (.cells ip6z 75)).setRow q ip6z = u3 at *
    go_wp2_with (first
      | (refine wpList_store_row rfl 48 (.tmp 4) (.tmp 21) rfl w.heap.size carz rfl rfl 48 carz (HM3.out.get 0 rfl) (by kernel_rfl) rfl (car_one ..) ?_))
    refine bodyPost_ret (v := .tuple #[.agg carz, .int .i64 E]) (results_row1 Try.results16 _ _ w.heap.size 48 carz (0, 0) _ rfl (setRow_heap _ w.heap.size _ carz _ _ (HM3.out.get 0 rfl)) Try.underlying48 rfl (by kernel_rfl)) rfl ?_
    refine .inl ⟨HE.out, ?_, below_setRow HM3.out.below (Nat.le_refl _) _⟩
    show _ = Ending.returned (.tuple #[.agg carz, .int .i64 (rd6E g m)])
    rw [← HEE.out]
  · obtain ⟨p, m2, O, co, P, cp, hch, rfl, _, hP, _, hb2⟩ := hq
    have HE := Lib.hid hE
    have HOK := Lib.hid (rd6_ok hE)
    have HOT := Lib.hid (ot_ok (v6 := true) HF.out (show otE true g m = 0 from hE))
    clear hE
    have HO2 := Lib.hid hP
    clear hP
    have HM2 := Lib.hid (HM1.out.step hb2)
    have HQ : Hid ((u2.alloc (.cells ip6z 75)).heap[u2.heap.size]? = some (.cells ip6z 75 (0, 0))) := heap_alloc_new u2 _
    go_upto_if 20 with (first
      | (refine wpList_store_row rfl 75 (.tmp 6) (.tmp 16) rfl u2.heap.size (ip6c (cls6 g) (lab6 g) (g 6) p (g 7) (fun k => g (8 + k)) (fun k => g (24 + k)) (.slice O m2 co)) rfl rfl 75 ip6z HQ.out (by kernel_rfl) rfl (ip6_one ..) ?_))
    change Code.wp _ _ _ _ ((u2.alloc (.cells ip6z 75)).setRow u2.heap.size (ip6c (cls6 g) (lab6 g) (g 6) p (g 7) (fun k => g (8 + k)) (fun k => g (24 + k)) (.slice O m2 co)))
    obtain ⟨q, hq⟩ : ∃ q, q = u2.heap.size := ⟨_, rfl⟩
    have HM3 : Hid (Mem w ((u2.alloc (.cells ip6z 75)).setRow q (ip6c (cls6 g) (lab6 g) (g 6) p (g 7) (fun k => g (8 + k)) (fun k => g (24 + k)) (.slice O m2 co))) [(w.heap.size, .cells carz 48 (0, 0)), (q, .cells (ip6c (cls6 g) (lab6 g) (g 6) p (g 7) (fun k => g (8 + k)) (fun k => g (24 + k)) (.slice O m2 co)) 75 (0, 0))]) := Lib.hid ((HM2.out.new (.cells ip6z 75) q hq).row 1 rfl (ip6c (cls6 g) (lab6 g) (g 6) p (g 7) (fun k => g (8 + k)) (fun k => g (24 + k)) (.slice O m2 co)))
    rw [← hq]
    have B23 : Hid (Below u2.heap.size u2 ((u2.alloc (.cells ip6z 75)).setRow q (ip6c (cls6 g) (lab6 g) (g 6) p (g 7) (fun k => g (8 + k)) (fun k => g (24 + k)) (.slice O m2 co)))) := Lib.hid (by rw [hq]; exact below_setRow (below_alloc u2 _) (Nat.le_refl _) _)
    have HO3 := Lib.hid ((HO2.out.below B23.out).le (show w.heap.size ≤ u1.heap.size from HM1.out.below.size))
    clear hq HQ HM2 HM1 hb2 B23 HO2
    generalize (u2.alloc (.cells ip6z 75)).setRow q (ip6c (cls6 g) (lab6 g) (g 6) p (g 7) (fun k => g (8 + k)) (fun k => g (24 + k)) (.slice O m2 co)) = u3 at *
    have xp : u3.cell? ⟨q, 3, none⟩ = some (.int .u8 p) := blk_cell (HM3.out.get 1 rfl) 3
    have xo : u3.cell? ⟨q, 37, none⟩ = some (.slice O m2 co) := blk_cell (HM3.out.get 1 rfl) 37
    obtain ⟨no, hno⟩ : ∃ k, k = m2 := ⟨_, rfl⟩
    obtain ⟨nr, hnr⟩ : ∃ k, k = (ln6 g - m2) := ⟨_, rfl⟩
    have eI : otI true g = 40 + no + nr ∧ otR true g = nr ∧ otA true g = 40 + no := by
      have h1 := HOK.out
      have h2 := HOT.out
      have eA : otA true g = 40 + m2 := by show 40 + (chn6 g).2.1 = _; rw [hch]
      have eI : otI true g = 40 + ln6 g := rfl
      rw [eA, eI] at h2
      rw [eA, eI]
      have eR : otR true g = ln6 g - m2 := by unfold otR; rw [eA, eI]; omega
      rw [eR, hno, hnr]
      omega
    have hbn : 40 + no + nr ≤ m := by have := HOT.out.2.2.1; rw [eI.1] at this; exact this
    have HEI := Lib.hid eI
    have eP : otP true g = p := by unfold otP; rw [if_pos rfl, hch]
    have HEP := Lib.hid eP
    have HNO := Lib.hid hno
    rw [← hnr] at HO3 ⊢
    rw [← hno] at xo HM3
    have w1 : IntKind.i64.wrap (40 + (no : Int)) = 40 + (no : Int) := by rw [IntKind.wrap_i64]; omega
    have w2x : IntKind.i64.wrap (40 + (no : Int) + (nr : Int)) = 40 + (no : Int) + (nr : Int) := by rw [IntKind.wrap_i64]; omega
    clear eI eP hno hnr hch hbn HOK HOT
    go_wp2_with (first
      | (refine wpList_load_mid rfl 23 (.tmp 26) rfl q 5 rfl (arr16 (fst16 g 8 16)).toList _ (blk_range (HM3.out.get 1 rfl) (fun k hk => by rw [ip6_src k hk]; unfold fst16; rw [if_pos hk])) Try.underlying23 rfl (by kernel_rfl) ?_)
      | (refine wpList_load_mid rfl 23 (.tmp 28) rfl q 21 rfl (arr16 (fst16 g 24 16)).toList _ (blk_range (HM3.out.get 1 rfl) (fun k hk => by rw [ip6_dst k hk]; unfold fst16; rw [if_pos hk])) Try.underlying23 rfl (by kernel_rfl) ?_)
      | (refine wpList_car rfl (.tmp 25) (.tmp 27) (.tmp 29) (.tmp 30) (.tmp 37) rfl true p (fst16 g 8 16) (fst16 g 24 16) P nr cp (40 + (no : Int) + (nr : Int)) rfl rfl rfl rfl rfl ?_)
      | (refine wpList_store_row rfl 48 (.tmp 4) (.tmp 38) rfl w.heap.size (carc true p (fst16 g 8 16) (fst16 g 24 16) (.slice P nr cp) (40 + (no : Int) + (nr : Int))) rfl rfl 48 carz (HM3.out.get 0 rfl) (by kernel_rfl) rfl (car_one ..) ?_))
    refine bodyPost_ret (v := .tuple #[.agg (carc true p (fst16 g 8 16) (fst16 g 24 16) (.slice P nr cp) (40 + (no : Int) + (nr : Int))), .int .i64 0]) (results_row1 Try.results16 _ _ w.heap.size 48 _ (0, 0) _ rfl (setRow_heap _ w.heap.size _ _ _ _ (HM3.out.get 0 rfl)) Try.underlying48 rfl (by kernel_rfl)) rfl ?_
    refine .inr ⟨HE.out, P, cp, ?_, ?_, below_setRow HM3.out.below (Nat.le_refl _) _⟩
    · rw [HEP.out, HEI.out.2.1, HEI.out.1, show ((40 + no + nr : Nat) : Int) = 40 + (no : Int) + (nr : Int) by omega]
      rfl
    · have h := HO3.out.other (HM3.out.get 0 rfl) (by decide) (fun k hk => setRow_other _ w.heap.size k (carc true p (fst16 g 8 16) (fst16 g 24 16) (.slice P nr cp) (40 + (no : Int) + (nr : Int))) hk)
      rw [HEI.out.2.1]
      have e2 : otF true g = fun k => g (otA true g + k) := rfl
      rw [e2, HEI.out.2.2]
      exact h.same fun k hk => by show g (40 + no + k) = g (40 + (m2 + k)); have := HNO.out; congr 1; omega
set_option maxHeartbeats 2000000 in
theorem car_false (A : Option Addr) (m c : Nat) (g : Nat → Int) (hg : Byt g) (hm : m ≤ 140737488355) (hcap : m ≤ c) (hc' : c ≤ 9223372036854775807) (w : World) (hr : Rd w w.heap.size A m g) :
    Calls Try.prog 16 #[.bool false, .slice A m c] w (CaO false g m w) := by
  have HR := Lib.hid hr
  have HF := Lib.hid hg
  clear hr hg
  have HM1 : Hid (Mem w (w.alloc (.cells carz 48)) [(w.heap.size, .cells carz 48 (0, 0))]) := Lib.hid ((Mem.nil w).alloc (.cells carz 48))
  go_enter Try.func16, Try.ntmps16
  go_upto_region 6 with fail
  change Code.wp _ _ _ _ (w.alloc (.cells carz 48))
  generalize w.alloc (.cells carz 48) = u1 at *
  have HRD := Lib.hid (read4_any A m c g HF.out (by omega) hcap hc' u1 (HM1.out.rd HR.out))
  go_wp2_with fail
  go_at_call 25
  refine HRD.out.mono ?_
  rintro e u2 hq
  clear HRD
  rcases hq with ⟨hE, rfl, hb2⟩ | ⟨hE, hq⟩
  · have hE' : (rd4E g m != 0) = true := by simpa using hE
    have HE := Lib.hid hE
    obtain ⟨E, hEE⟩ : ∃ E, E = rd4E g m := ⟨_, rfl⟩
    rw [← hEE] at hE' ⊢
    have HEE := Lib.hid hEE
    clear hEE hE
    have HM2 := Lib.hid (HM1.out.step hb2)
    have HQ : Hid ((u2.alloc (.cells ip4z 79)).heap[u2.heap.size]? = some (.cells ip4z 79 (0, 0))) := heap_alloc_new u2 _
    go_upto_if 46 with (first
      | (refine wpList_store_row rfl 79 (.tmp 9) (.tmp 42) rfl u2.heap.size ip4z rfl rfl 79 ip4z HQ.out (by kernel_rfl) rfl (ip4_one ..) ?_))
    change Code.wp _ _ _ _ ((u2.alloc (.cells ip4z 79)).setRow u2.heap.size ip4z)
    obtain ⟨q, hq⟩ : ∃ q, q = u2.heap.size := ⟨_, rfl⟩
    have HM3 : Hid (Mem w ((u2.alloc (.cells ip4z 79)).setRow q ip4z) [(w.heap.size, .cells carz 48 (0, 0)), (q, .cells ip4z 79 (0, 0))]) := Lib.hid ((HM2.out.new (.cells ip4z 79) q hq).row 1 rfl ip4z)
    rw [← hq]
    clear hq HQ HM2 HM1 hb2
    generalize (u2.alloc (.cells ip4z 79)).setRow q ip4z = u3 at *
    go_wp2_with (first
      | (refine wpList_store_row rfl 48 (.tmp 4) (.tmp 47) rfl w.heap.size carz rfl rfl 48 carz (HM3.out.get 0 rfl) (by kernel_rfl) rfl (car_one ..) ?_))
    refine bodyPost_ret (v := .tuple #[.agg carz, .int .i64 E]) (results_row1 Try.results16 _ _ w.heap.size 48 carz (0, 0) _ rfl (setRow_heap _ w.heap.size _ carz _ _ (HM3.out.get 0 rfl)) Try.underlying48 rfl (by kernel_rfl)) rfl ?_
    refine .inl ⟨HE.out, ?_, below_setRow HM3.out.below (Nat.le_refl _) _⟩
    show _ = Ending.returned (.tuple #[.agg carz, .int .i64 (rd4E g m)])
    rw [← HEE.out]
  · obtain ⟨O, co, P, cp, rfl, _, hP, _, hb2⟩ := hq
    have HE := Lib.hid hE
    have HOK := Lib.hid (rd4_ok HF.out hE)
    have HOT := Lib.hid (ot_ok (v6 := false) HF.out (show otE false g m = 0 from hE))
    clear hE
    have HO2 := Lib.hid hP
    clear hP
    have HM2 := Lib.hid (HM1.out.step hb2)
    have HQ : Hid ((u2.alloc (.cells ip4z 79)).heap[u2.heap.size]? = some (.cells ip4z 79 (0, 0))) := heap_alloc_new u2 _
    go_upto_if 46 with (first
      | (refine wpList_store_row rfl 79 (.tmp 9) (.tmp 42) rfl u2.heap.size (ip4c (g 1) (g 4 * 256 + g 5) (decide (16384 ≤ g 6 * 256 + g 7)) (g 8) (g 9) (adr fun k => g (12 + k)) (adr fun k => g (16 + k)) (.slice O (hl4 g - 20) co)) rfl rfl 79 ip4z HQ.out (by kernel_rfl) rfl (ip4_one ..) ?_))
    change Code.wp _ _ _ _ ((u2.alloc (.cells ip4z 79)).setRow u2.heap.size (ip4c (g 1) (g 4 * 256 + g 5) (decide (16384 ≤ g 6 * 256 + g 7)) (g 8) (g 9) (adr fun k => g (12 + k)) (adr fun k => g (16 + k)) (.slice O (hl4 g - 20) co)))
    obtain ⟨q, hq⟩ : ∃ q, q = u2.heap.size := ⟨_, rfl⟩
    have HM3 : Hid (Mem w ((u2.alloc (.cells ip4z 79)).setRow q (ip4c (g 1) (g 4 * 256 + g 5) (decide (16384 ≤ g 6 * 256 + g 7)) (g 8) (g 9) (adr fun k => g (12 + k)) (adr fun k => g (16 + k)) (.slice O (hl4 g - 20) co))) [(w.heap.size, .cells carz 48 (0, 0)), (q, .cells (ip4c (g 1) (g 4 * 256 + g 5) (decide (16384 ≤ g 6 * 256 + g 7)) (g 8) (g 9) (adr fun k => g (12 + k)) (adr fun k => g (16 + k)) (.slice O (hl4 g - 20) co)) 79 (0, 0))]) := Lib.hid ((HM2.out.new (.cells ip4z 79) q hq).row 1 rfl (ip4c (g 1) (g 4 * 256 + g 5) (decide (16384 ≤ g 6 * 256 + g 7)) (g 8) (g 9) (adr fun k => g (12 + k)) (adr fun k => g (16 + k)) (.slice O (hl4 g - 20) co)))
    rw [← hq]
    have B23 : Hid (Below u2.heap.size u2 ((u2.alloc (.cells ip4z 79)).setRow q (ip4c (g 1) (g 4 * 256 + g 5) (decide (16384 ≤ g 6 * 256 + g 7)) (g 8) (g 9) (adr fun k => g (12 + k)) (adr fun k => g (16 + k)) (.slice O (hl4 g - 20) co)))) := Lib.hid (by rw [hq]; exact below_setRow (below_alloc u2 _) (Nat.le_refl _) _)
    have HO3 := Lib.hid ((HO2.out.below B23.out).le (show w.heap.size ≤ u1.heap.size from HM1.out.below.size))
    clear hq HQ HM2 HM1 hb2 B23 HO2
    generalize (u2.alloc (.cells ip4z 79)).setRow q (ip4c (g 1) (g 4 * 256 + g 5) (decide (16384 ≤ g 6 * 256 + g 7)) (g 8) (g 9) (adr fun k => g (12 + k)) (adr fun k => g (16 + k)) (.slice O (hl4 g - 20) co)) = u3 at *
    have xp : u3.cell? ⟨q, 4, none⟩ = some (.int .u8 (g 9)) := blk_cell (HM3.out.get 1 rfl) 4
    have xo : u3.cell? ⟨q, 37, none⟩ = some (.slice O (hl4 g - 20) co) := blk_cell (HM3.out.get 1 rfl) 37
    obtain ⟨no, hno⟩ : ∃ k, k = (hl4 g - 20) := ⟨_, rfl⟩
    obtain ⟨nr, hnr⟩ : ∃ k, k = (tl4 g - hl4 g) := ⟨_, rfl⟩
    have eI : otI false g = 20 + no + nr ∧ otR false g = nr ∧ otA false g = 20 + no := by
      have h1 := HOK.out
      have h2 := HOT.out
      have eA : otA false g = hl4 g := rfl
      have eI : otI false g = tl4 g := rfl
      have eR : otR false g = tl4 g - hl4 g := rfl
      rw [eA, eI] at h2
      rw [eA, eI, eR, hno, hnr]
      omega
    have hbn : 20 + no + nr ≤ m := by have := HOT.out.2.2.1; rw [eI.1] at this; exact this
    have HEI := Lib.hid eI
    have HLO := Lib.hid HOK.out.1
    have eP : otP false g = (g 9) := by rfl
    have HEP := Lib.hid eP
    have HNO := Lib.hid hno
    rw [← hnr] at HO3 ⊢
    rw [← hno] at xo HM3
    have w1 : IntKind.i64.wrap (20 + (no : Int)) = 20 + (no : Int) := by rw [IntKind.wrap_i64]; omega
    have w2x : IntKind.i64.wrap (20 + (no : Int) + (nr : Int)) = 20 + (no : Int) + (nr : Int) := by rw [IntKind.wrap_i64]; omega
    clear eI eP hno hnr  hbn HOK HOT
    go_wp2_with (first
      | (refine wpList_load_mid rfl 23 (.tmp 52) rfl q 5 rfl (arr16 (adr fun k => g (12 + k))).toList _ (blk_range (HM3.out.get 1 rfl) (fun k hk => ip4_src k hk)) Try.underlying23 rfl (by kernel_rfl) ?_)
      | (refine wpList_load_mid rfl 23 (.tmp 54) rfl q 21 rfl (arr16 (adr fun k => g (16 + k))).toList _ (blk_range (HM3.out.get 1 rfl) (fun k hk => ip4_dst k hk)) Try.underlying23 rfl (by kernel_rfl) ?_)
      | (refine wpList_car rfl (.tmp 51) (.tmp 53) (.tmp 55) (.tmp 56) (.tmp 63) rfl false (g 9) (adr fun k => g (12 + k)) (adr fun k => g (16 + k)) P nr cp (20 + (no : Int) + (nr : Int)) rfl rfl rfl rfl rfl ?_)
      | (refine wpList_store_row rfl 48 (.tmp 4) (.tmp 64) rfl w.heap.size (carc false (g 9) (adr fun k => g (12 + k)) (adr fun k => g (16 + k)) (.slice P nr cp) (20 + (no : Int) + (nr : Int))) rfl rfl 48 carz (HM3.out.get 0 rfl) (by kernel_rfl) rfl (car_one ..) ?_))
    refine bodyPost_ret (v := .tuple #[.agg (carc false (g 9) (adr fun k => g (12 + k)) (adr fun k => g (16 + k)) (.slice P nr cp) (20 + (no : Int) + (nr : Int))), .int .i64 0]) (results_row1 Try.results16 _ _ w.heap.size 48 _ (0, 0) _ rfl (setRow_heap _ w.heap.size _ _ _ _ (HM3.out.get 0 rfl)) Try.underlying48 rfl (by kernel_rfl)) rfl ?_
    refine .inr ⟨HE.out, P, cp, ?_, ?_, below_setRow HM3.out.below (Nat.le_refl _) _⟩
    · rw [HEP.out, HEI.out.2.1, HEI.out.1, show ((20 + no + nr : Nat) : Int) = 20 + (no : Int) + (nr : Int) by omega]
      rfl
    · have h := HO3.out.other (HM3.out.get 0 rfl) (by decide) (fun k hk => setRow_other _ w.heap.size k (carc false (g 9) (adr fun k => g (12 + k)) (adr fun k => g (16 + k)) (.slice P nr cp) (20 + (no : Int) + (nr : Int))) hk)
      rw [HEI.out.2.1]
      have e2 : otF false g = fun k => g (otA false g + k) := rfl
      rw [e2, HEI.out.2.2]
      exact h.same fun k hk => by show g (20 + no + k) = g (hl4 g + k); have h1 := HNO.out; have h2 := HLO.out; congr 1; omega
theorem carrier_any (v : Bool) (A : Option Addr) (m c : Nat) (g : Nat → Int) (hg : Byt g) (hm : m ≤ 140737488355) (hcap : m ≤ c) (hc' : c ≤ 9223372036854775807) (w : World) (hr : Rd w w.heap.size A m g) :
    Calls Try.prog 16 #[.bool v, .slice A m c] w (CaO v g m w) := by
  cases v
  · exact car_false A m c g hg hm hcap hc' w hr
  · exact car_true A m c g hg hm hcap hc' w hr
end Go.Proofs.Ytlchegibfopglaa
