import Derived.WalkMore
import Derived.Test.YthjghofjdcepmaaGm30
/- Stage 14: the landed growing table: All. -/
namespace Go.Proofs.Ythjghofjdcepmaa
set_option maxRecDepth 100000
open Go.RowKit Go.Shelf
attribute [local go_sem] Oper.semAt_some
theorem yieldAt_any {k k' l0 : Nat} {P : Program} {l : Nat} {args : Array Value} {W : World} {R : Ending → World → Prop} (h : YieldAt Fence.wide k P l args W R) : YieldAt (Fence.wide.inRound l0) k' P l args W R := by
  obtain ⟨fn, tmps, assign, body, hy, h1, h2⟩ := h
  exact ⟨fn, tmps, assign, body, hy, h1, fun c cs _ => h2 c cs (room_wide _)⟩
theorem keptC_g {R : Nat → Prop} {X Y : World} {row : Option Nat} (hg : X.grownBy Y row) (hr : ∀ r, row = some r → ∃ o : Obj, X.heap[r]? = some o ∧ o.isCells = false) : KeptC R X Y :=
  ⟨hg.size, fun k cs t fr hk _ => (grownBy_keeps_cells hg hr hk rfl).trans hk⟩
theorem gall_fn (w : World) (pa : Option Addr) : Calls Try.prog 24 #[.pointer pa] w fun e w' => e = .returned (.func (.func 58) #[] #[.pointer (some ⟨w.heap.size, 0, none⟩)]) ∧ w' = w.alloc (.cells #[.pointer pa] 24) := by
  go_enter Try.func24, Try.ntmps24
  go_wp2_with fail
  go_ret
  exact ⟨rfl, rfl⟩
theorem gall_eg : ∀ args w, (callFunc 58 args).run Try.prog w = .ok (.enter 58 args) w := fun _ _ => by kernel_rfl
/-- What tells a table's entries, one that is not there among them. -/
def TelT (q : Option Addr) (T : List (Nat × Nat × Nat)) (R : Nat → Prop) (w0 : World) : Prop := ∀ W, KeptC R w0 W → Calls Try.prog 59 #[.pointer q] W fun e w' => ∃ lb, e = .returned (.func (.func 72) #[] lb) ∧ Below W.heap.size W w' ∧ SeqQ Fence.wide 12 Try.prog 72 lb tEnc (KeptC R) T w'
/-- What is so while a table is gone over: what has been handed on so far; the record of the loop ahead. -/
def AllI (J : List (Nat × Nat) → World → Prop) (R : Nat → Prop) (w0 : World) (by_ ly : Nat) (D : List (Nat × Nat)) (dd : Option Nat) (pre : List (Nat × Nat × Nat)) (W : World) : Prop :=
  J (D ++ pre.map (·.2)) W ∧ KeptC R w0 W ∧ W.heap[by_]? = some (.cells #[.func (.yield ly) #[] #[]] 57 (0, 0)) ∧ ∀ d, dd = some d → W.heap[d]? = some (.deferred (some []))
def AllX (Jx : List (Nat × Nat) → World → Prop) (S : List (Nat × Nat)) (dd : Option Nat) (c : Code) (_pre : List (Nat × Nat × Nat)) (W : World) : Prop :=
  c = .exit 0 ∧ (∃ l, l <+: S ∧ Jx l W) ∧ ∀ d, dd = some d → W.heap[d]? = some (.deferred (some []))
theorem defd_g {X Y : World} {row : Option Nat} {B : Nat} (hg : X.grownBy Y row) (hr : ∀ r, row = some r → B ≤ r) {d : Nat} (hd : d < B) (h : X.heap[d]? = some (.deferred (some []))) : Y.heap[d]? = some (.deferred (some [])) :=
  (hg.block _ (Array.getElem?_eq_some_iff.1 h).1 (fun e => by have := hr _ e.symm; omega)).trans h
theorem allI_own {J : List (Nat × Nat) → World → Prop} {R : Nat → Prop} {w0 : World} {by_ ly : Nat} {D : List (Nat × Nat)} {dd : Option Nat} {B0 B : Nat} (hJ : OwnFrom B0 J) (hB : B0 ≤ B) (hd : ∀ d, dd = some d → d < B) : OwnFrom B (AllI J R w0 by_ ly D dd) := by
  rintro s X Y row ⟨h1, h2, h3, h4⟩ hg hr
  exact ⟨hJ _ X Y row h1 hg fun r e => ⟨Nat.le_trans hB (hr r e).1, (hr r e).2⟩, keptC_t h2 (keptC_g hg fun r e => (hr r e).2), (grownBy_keeps_cells hg (fun r e => (hr r e).2) h3 rfl).trans h3, fun d e => defd_g hg (fun r e => (hr r e).1) (hd d e) (h4 d e)⟩
theorem allX_own {Jx : List (Nat × Nat) → World → Prop} {S : List (Nat × Nat)} {dd : Option Nat} {B0 B : Nat} (hJ : OwnFrom B0 Jx) (hB : B0 ≤ B) (hd : ∀ d, dd = some d → d < B) (c : Code) : OwnFrom B (AllX Jx S dd c) := by
  rintro s X Y row ⟨h1, ⟨l, h2, h3⟩, h4⟩ hg hr
  exact ⟨h1, ⟨l, h2, hJ _ X Y row h3 hg fun r e => ⟨Nat.le_trans hB (hr r e).1, (hr r e).2⟩⟩, fun d e => defd_g hg (fun r e => (hr r e).1) (hd d e) (h4 d e)⟩
theorem AllI.alloc {J : List (Nat × Nat) → World → Prop} {R : Nat → Prop} {w0 : World} {by_ ly : Nat} {D : List (Nat × Nat)} {dd : Option Nat} {B0 : Nat} (hJ : OwnFrom B0 J) {pre : List (Nat × Nat × Nat)} {W : World} (h : AllI J R w0 by_ ly D dd pre W) (o : Obj) : AllI J R w0 by_ ly D dd pre (W.alloc o) := by
  obtain ⟨h1, h2, h3, h4⟩ := h
  exact ⟨hJ _ W _ none h1 (World.grownBy_alloc W o none) (fun r e => nomatch e), keptC_t h2 (KeptC.of_below (below_alloc W o) R), blk_old h3 _, fun d e => (Below.heap_alloc _ _ _ (Array.getElem?_eq_some_iff.1 (h4 d e)).1).trans (h4 d e)⟩
set_option maxHeartbeats 4000000 in
theorem gall_it {w0 : World} {pa : Option Addr} {a b : Option Addr} {T1 T2 : List (Nat × Nat × Nat)} {R : Nat → Prop} {b0 : Nat} (hRo : ∀ k, R k → k < w0.heap.size) (hR0 : ¬ R b0) (hc : w0.cell? ⟨b0, 0, none⟩ = some (.pointer pa))
    (hbo : ∀ W, KeptC R w0 W → Calls Try.prog 53 #[.pointer pa] W (ret (.agg #[.pointer a, .pointer b]) W)) (h1 : TelT a T1 R w0) (h2 : TelT b T2 R w0) :
    SeqQ Fence.wide 12 Try.prog 58 #[.pointer (some ⟨b0, 0, none⟩)] gEnc (KeptC R) (T1.map (·.2) ++ T2.map (·.2)) w0 := fun ly J Jx W hW hJ hJx hY hJ0 => by
  obtain ⟨w1, hw1⟩ : ∃ w1, w1 = W.alloc (.cells #[.func (.yield ly) #[] #[]] 57) := ⟨_, rfl⟩
  obtain ⟨by_, hby⟩ : ∃ b, b = W.heap.size := ⟨_, rfl⟩
  have hb1 : Below W.heap.size W w1 := by rw [hw1]; exact below_alloc W _
  have HK1 : Hid (KeptC R w0 w1) := Lib.hid (keptC_t (KeptC.of_below hW R) (KeptC.of_below hb1 R))
  have HJ1 : Hid (J [] w1) := Lib.hid (hJ [] W w1 none hJ0 (grown_below hb1) (fun r e => nomatch e))
  have HBY : Hid (w1.heap[by_]? = some (.cells #[.func (.yield ly) #[] #[]] 57 (0, 0))) := Lib.hid (by rw [hw1, hby]; exact heap_alloc_new W _)
  have HWS : Hid (W.heap.size ≤ w1.heap.size) := Lib.hid hb1.size
  have HRY : Hid (¬ R by_) := Lib.hid fun q => by
    have := hRo _ q
    have := hW.size
    omega
  have x0 : w1.cell? ⟨b0, 0, none⟩ = some (.pointer pa) := HK1.out.cell hc hR0
  have HBO := Lib.hid hbo
  have HT1 := Lib.hid h1
  have HT2 := Lib.hid h2
  have HJ := Lib.hid hJ
  have HJx := Lib.hid hJx
  have HY := Lib.hid hY
  have hnil : ∀ V : World, (binOp .eql 57 (.func (.yield ly) #[] #[]) .nilFunc).run Try.prog V = .ok (.bool false) V := fun _ => by kernel_rfl
  have i0 : ∀ W : World, (Instr.index 81 (.agg #[.pointer a, .pointer b]) (.int .i64 0)).run Try.prog W = .ok (.pointer a) W := fun _ => by kernel_rfl
  have i1 : ∀ W : World, (Instr.index 81 (.agg #[.pointer a, .pointer b]) (.int .i64 1)).run Try.prog W = .ok (.pointer b) W := fun _ => by kernel_rfl
  clear hRo hR0 hc hbo h1 h2 hJ hJx hY hJ0 hb1 hW
  refine callsIn_of_wp_marks Try.func58 rfl trivial ?_ rfl
  refine wpIn_wide.2 ?_
  simp only [Try.ntmps58, List.size_toArray, List.length_cons, List.length_nil, Nat.reduceAdd, Nat.reduceSub, Array.replicate_succ, Array.replicate_zero, List.push_toArray, List.append_toArray, List.nil_append, List.cons_append]
  go_upto_region 1 with fail
  change Code.wp _ _ _ _ (W.alloc (.cells #[.func (.yield ly) #[] #[]] 57))
  rw [← hw1, ← hby]
  clear hw1 hby
  have xy : w1.cell? ⟨by_, 0, none⟩ = some (.func (.yield ly) #[] #[]) := blk_cell HBY.out 0
  go_wp2
  go_step3
  go_wp2
  go_step3
  go_wp2_with (first
    | (go_at_call 53
       refine (HBO.out w1 HK1.out).mono ?_
       rintro e w2 ⟨rfl, hb⟩
       have HK2 := Lib.hid (keptC_t HK1.out (KeptC.of_below hb R))
       have HJ2 : Hid (J [] w2) := Lib.hid (HJ.out [] w1 w2 none HJ1.out (grown_below hb) (fun r e => nomatch e))
       have HBY2 := Lib.hid ((hb.block by_ (lt_heap HBY.out)).trans HBY.out)
       have HWS2 := Lib.hid (Nat.le_trans HWS.out hb.size)
       clear hb x0 xy))
  refine wp_loop_rounds 3 ?_
  rw [rounds_succ]
  go_wp2_with (first
    | (go_at_call 59
       refine (HT1.out w2 HK2.out).mono ?_
       rintro e u ⟨lb, rfl, hb, hseq⟩
       have HSQ := Lib.hid hseq
       have HK3 := Lib.hid (keptC_t HK2.out (KeptC.of_below hb R))
       have HJ3 : Hid (J [] u) := Lib.hid (HJ.out [] w2 u none HJ2.out (grown_below hb) (fun r e => nomatch e))
       have HBY3 := Lib.hid ((hb.block by_ (lt_heap HBY2.out)).trans HBY2.out)
       have HWS3 := Lib.hid (Nat.le_trans HWS2.out hb.size)
       clear hb hseq))
  have HDM : Hid (∀ d, (none : Option Nat) = some d → W.heap.size ≤ d) := Lib.hid fun d e => (by cases e)
  refine (wpIn_wide (n := 13)).1 ?_
  refine wpIn_rangeFunc_Q rfl (by omega) (gf := 72) (lb := lb) rfl trivial all_eg HSQ.out (Below.refl _ _) (fun _ => rfl) keptC_t keptC_b
    (AllI J R w0 by_ ly [] (none)) (AllX Jx (T1.map (·.2) ++ T2.map (·.2)) (none)) (allI_own HJ.out HWS3.out (fun d e => (by cases e))) (fun c => allX_own HJx.out HWS3.out (fun d e => (by cases e)) c)
    ⟨HJ3.out, HK3.out, HBY3.out, fun d e => (by cases e)⟩
    (fun pre x a' W => AllI J R w0 by_ ly [] (none) pre W ∧ ∃ Bx, W.heap[Bx]? = some (.cells #[.int .u64 (x.2.1 : Int), .int .u32 (x.2.2 : Int)] 34 (0, 0)) ∧ a' = { tmps := #[.func (.yield ly) #[] #[], .pointer (some ⟨b0, 0, none⟩), .pointer (some ⟨by_, 0, none⟩), undef, .pointer a, undef, .pointer (some ⟨Bx, 0, none⟩), .func (.yield ly) #[] #[], .bool false, .pointer pa, .agg #[.pointer a, .pointer b], .int .i64 0, .bool true, .pointer a, .pointer a, .func (.func 72) #[] lb, .int .i64 (x.1 : Int), .agg #[.int .u64 (x.2.1 : Int), .int .u32 (x.2.2 : Int)], undef, undef, undef, undef, undef], defers := [] })
    (fun pre x a' _ X Y row hs hg hr => by obtain ⟨h0, Bx, h1, h2⟩ := hs; exact ⟨allI_own HJ.out HWS3.out (fun d e => (by cases e)) pre X Y row h0 hg hr, Bx, (grownBy_keeps_cells hg (fun r e => (hr r e).2) h1 rfl).trans h1, h2⟩)
    ?assign ?body ?done ?stop
  case assign =>
    rintro lk pre x U hi hpre
    unfold tEnc
    gi_wp2

    exact ⟨(KeepsOthers.alloc _ _).from _, KeptC.of_below (below_alloc U _) R, hi.alloc HJ.out _, U.heap.size, heap_alloc_new U _, rfl⟩
  case body =>
    rintro lk pre x a' U hpre ⟨⟨hj, hk, hby, hdd⟩, Bx, hbx, rfl⟩
    have hpp : [] ++ pre.map (·.2) ++ [x.2] = [] ++ (pre ++ [x]).map (·.2) := by rw [List.map_append, List.append_assoc]; rfl
    have HPR : Hid ([] ++ (pre ++ [x]).map (·.2) <+: (T1.map (·.2) ++ T2.map (·.2))) := Lib.hid ((hpre.map _).trans (List.prefix_append _ _))
    obtain ⟨fn, tmps, assign, body, hyl, hR⟩ := yieldAt_any (l0 := lk) (k' := 10) (HY.out ([] ++ pre.map (·.2)) x.2 U hj (by
      rw [hpp]
      exact HPR.out))
    dsimp only [gEnc] at hyl
    rw [hpp] at hR
    have HR := Lib.hid hR
    have HKu := Lib.hid hk
    have HBYu := Lib.hid hby
    have HDu := Lib.hid hdd
    have xby : U.cell? ⟨by_, 0, none⟩ = some (.func (.yield ly) #[] #[]) := blk_cell hby 0
    have e0 : U.cell? ⟨Bx, 0, none⟩ = some (.int .u64 (x.2.1 : Int)) := blk_cell hbx 0
    have e1 : U.cell? ⟨Bx, 1, none⟩ = some (.int .u32 (x.2.2 : Int)) := blk_cell hbx 1
    clear hR hj hk hby hdd hbx hpre hpp
    gi_wp2
    refine HR.out.mono ?_
    rintro e W3 (⟨rfl, h1, h2, h3⟩ | ⟨rfl, h1, h3⟩)
    · have HH1 := Lib.hid h1
      have HH2 := Lib.hid h2
      have HH3 := Lib.hid h3
      clear h1 h2 h3 hyl xby e0 e1
      gi_wp2
      exact ⟨kf_up HH3.out HWS3.out, HH2.out, HH1.out, keptC_t HKu.out HH2.out, HH2.out.2 by_ _ _ _ HBYu.out HRY.out, fun d e => HH3.out.same d _ (HDM.out d e) (HDu.out d e) rfl⟩
    · have HH1 := Lib.hid h1
      have HH3 := Lib.hid h3
      clear h1 h3 hyl xby e0 e1
      gi_wp2
      exact ⟨kf_up HH3.out HWS3.out, rfl, ⟨_, HPR.out, HH1.out⟩, fun d e => HH3.out.same d _ (HDM.out d e) (HDu.out d e) rfl⟩
  case stop =>
    rintro D1 c pre U hD hpre ⟨rfl, ⟨l, hl, hj⟩, _⟩ hK
    have HJU := Lib.hid hj
    have HL := Lib.hid hl
    have HKD := Lib.hid hK
    have HDL := Lib.hid (Nat.le_trans HWS3.out hD)
    clear hj hl hK
    gi_wp2
    refine ⟨by simp, .inl ⟨_, _, rfl, run_takeDeferred HKD.out, ?_⟩⟩
    exact ⟨_, results_none rfl _ _ _, ⟨_, rfl⟩, .inr ⟨l, HL.out, HJx.out.putObj _ HJU.out HDL.out HKD.out rfl⟩⟩
  case done =>
    rintro D1 U hD ⟨hj, hk, hby, _⟩ hK
    have HJU : Hid (J (T1.map (·.2)) U) := Lib.hid hj
    have HKU := Lib.hid hk
    have HBYU := Lib.hid hby
    have HKD := Lib.hid hK
    have HD1 := Lib.hid (Nat.le_trans HWS3.out hD)
    have HDU := Lib.hid (Array.getElem?_eq_some_iff.1 hK).1
    have HWSU : Hid (W.heap.size ≤ U.heap.size) := Lib.hid (Nat.le_trans HD1.out (Nat.le_of_lt HDU.out))
    clear hj hk hby hK hD HDM HSQ
    go_wp2
    rw [rounds_succ]
    go_wp2_with (first
      | (go_at_call 59
         refine (HT2.out U HKU.out).mono ?_
         rintro e v ⟨lb, rfl, hb, hseq⟩
         have HSQ := Lib.hid hseq
         have HK4 := Lib.hid (keptC_t HKU.out (KeptC.of_below hb R))
         have HJ4 : Hid (J (T1.map (·.2)) v) := Lib.hid (HJ.out _ U v none HJU.out (grown_below hb) (fun r e => nomatch e))
         have HBY4 := Lib.hid ((hb.block by_ (lt_heap HBYU.out)).trans HBYU.out)
         have HWS4 := Lib.hid (Nat.le_trans HWSU.out hb.size)
         have HDL : Hid (D1 < v.heap.size) := Lib.hid (Nat.lt_of_lt_of_le HDU.out hb.size)
         have HKD4 := Lib.hid ((hb.block D1 HDU.out).trans HKD.out)
         clear hb hseq))
    have HDM : Hid (∀ d, (some D1 : Option Nat) = some d → W.heap.size ≤ d) := Lib.hid fun d e => by
      injection e with e
      rw [← e]
      exact HD1.out
    have HNE : ∀ (V : World) (D2 : Nat), D2 ≠ D1 → V.heap[D1]? = some (.deferred (some [])) → (V.putObj D2 (.deferred none)).heap[D1]? = some (.deferred (some [])) := fun V D2 hne h => (World.putObj_heap_other (by omega)).trans h
    refine (wpIn_wide (n := 13)).1 ?_
    refine wpIn_rangeFunc_Q rfl (by omega) (gf := 72) (lb := lb) rfl trivial all_eg HSQ.out (Below.refl _ _) (fun _ => rfl) keptC_t keptC_b
      (AllI J R w0 by_ ly (T1.map (·.2)) (some D1)) (AllX Jx (T1.map (·.2) ++ T2.map (·.2)) (some D1)) (allI_own HJ.out HWS4.out (fun d e => by have e : D1 = d := (by injection e); rw [← e]; exact HDL.out)) (fun c => allX_own HJx.out HWS4.out (fun d e => by have e : D1 = d := (by injection e); rw [← e]; exact HDL.out) c)
      ⟨by rw [List.map_nil, List.append_nil]; exact HJ4.out, HK4.out, HBY4.out, fun d e => by have e : D1 = d := (by injection e); rw [← e]; exact HKD4.out⟩
      (fun pre x a' W => AllI J R w0 by_ ly (T1.map (·.2)) (some D1) pre W ∧ ∃ Bx, W.heap[Bx]? = some (.cells #[.int .u64 (x.2.1 : Int), .int .u32 (x.2.2 : Int)] 34 (0, 0)) ∧ a' = { tmps := #[.func (.yield ly) #[] #[], .pointer (some ⟨b0, 0, none⟩), .pointer (some ⟨by_, 0, none⟩), undef, .pointer b, undef, .pointer (some ⟨Bx, 0, none⟩), .func (.yield ly) #[] #[], .bool false, .pointer pa, .agg #[.pointer a, .pointer b], .int .i64 1, .bool true, .pointer b, .pointer b, .func (.func 72) #[] lb, .int .i64 (x.1 : Int), .agg #[.int .u64 (x.2.1 : Int), .int .u32 (x.2.2 : Int)], undef, undef, undef, undef, .int .i64 1], defers := [] })
      (fun pre x a' _ X Y row hs hg hr => by obtain ⟨h0, Bx, h1, h2⟩ := hs; exact ⟨allI_own HJ.out HWS4.out (fun d e => by have e : D1 = d := (by injection e); rw [← e]; exact HDL.out) pre X Y row h0 hg hr, Bx, (grownBy_keeps_cells hg (fun r e => (hr r e).2) h1 rfl).trans h1, h2⟩)
      ?assign ?body ?done ?stop
    case assign =>
      rintro lk pre x U hi hpre
      unfold tEnc
      gi_wp2

      exact ⟨(KeepsOthers.alloc _ _).from _, KeptC.of_below (below_alloc U _) R, hi.alloc HJ.out _, U.heap.size, heap_alloc_new U _, rfl⟩
    case body =>
      rintro lk pre x a' U hpre ⟨⟨hj, hk, hby, hdd⟩, Bx, hbx, rfl⟩
      have hpp : (T1.map (·.2)) ++ pre.map (·.2) ++ [x.2] = (T1.map (·.2)) ++ (pre ++ [x]).map (·.2) := by rw [List.map_append, List.append_assoc]; rfl
      have HPR : Hid ((T1.map (·.2)) ++ (pre ++ [x]).map (·.2) <+: (T1.map (·.2) ++ T2.map (·.2))) := Lib.hid ((List.prefix_append_right_inj _).2 (hpre.map _))
      obtain ⟨fn, tmps, assign, body, hyl, hR⟩ := yieldAt_any (l0 := lk) (k' := 10) (HY.out ((T1.map (·.2)) ++ pre.map (·.2)) x.2 U hj (by
        rw [hpp]
        exact HPR.out))
      dsimp only [gEnc] at hyl
      rw [hpp] at hR
      have HR := Lib.hid hR
      have HKu := Lib.hid hk
      have HBYu := Lib.hid hby
      have HDu := Lib.hid hdd
      have xby : U.cell? ⟨by_, 0, none⟩ = some (.func (.yield ly) #[] #[]) := blk_cell hby 0
      have e0 : U.cell? ⟨Bx, 0, none⟩ = some (.int .u64 (x.2.1 : Int)) := blk_cell hbx 0
      have e1 : U.cell? ⟨Bx, 1, none⟩ = some (.int .u32 (x.2.2 : Int)) := blk_cell hbx 1
      clear hR hj hk hby hdd hbx hpre hpp
      gi_wp2
      refine HR.out.mono ?_
      rintro e W3 (⟨rfl, h1, h2, h3⟩ | ⟨rfl, h1, h3⟩)
      · have HH1 := Lib.hid h1
        have HH2 := Lib.hid h2
        have HH3 := Lib.hid h3
        clear h1 h2 h3 hyl xby e0 e1
        gi_wp2
        exact ⟨kf_up HH3.out HWS4.out, HH2.out, HH1.out, keptC_t HKu.out HH2.out, HH2.out.2 by_ _ _ _ HBYu.out HRY.out, fun d e => HH3.out.same d _ (HDM.out d e) (HDu.out d e) rfl⟩
      · have HH1 := Lib.hid h1
        have HH3 := Lib.hid h3
        clear h1 h3 hyl xby e0 e1
        gi_wp2
        exact ⟨kf_up HH3.out HWS4.out, rfl, ⟨_, HPR.out, HH1.out⟩, fun d e => HH3.out.same d _ (HDM.out d e) (HDu.out d e) rfl⟩
    case stop =>
      rintro D2 c pre V hD hpre ⟨rfl, ⟨l, hl, hj⟩, hdd⟩ hK
      have HJU := Lib.hid hj
      have HL := Lib.hid hl
      have HKE := Lib.hid hK
      have HK1 := Lib.hid (hdd D1 rfl)
      have HDV := Lib.hid (Nat.le_trans HWS4.out hD)
      have HN := Lib.hid (show D2 ≠ D1 by have := HDL.out; omega)
      clear hj hl hK hdd
      gi_wp2
      refine ⟨by simp, .inl ⟨_, _, rfl, run_takeDeferred HKE.out, ?_⟩⟩
      refine ⟨by simp, .inl ⟨_, _, rfl, run_takeDeferred (HNE V D2 HN.out HK1.out), ?_⟩⟩
      exact ⟨_, results_none rfl _ _ _, ⟨_, rfl⟩, .inr ⟨l, HL.out, HJx.out.putObj _ (HJx.out.putObj _ HJU.out HDV.out HKE.out rfl) HD1.out (HNE V D2 HN.out HK1.out) rfl⟩⟩
    case done =>
      rintro D2 V hD ⟨hj, _, _, hdd⟩ hK
      have HJU := Lib.hid hj
      have HKE := Lib.hid hK
      have HK1 := Lib.hid (hdd D1 rfl)
      have HDV := Lib.hid (Nat.le_trans HWS4.out hD)
      have HN := Lib.hid (show D2 ≠ D1 by have := HDL.out; omega)
      clear hj hK hdd
      go_wp2
      rw [rounds_succ]
      go_wp2
      refine ⟨by simp, .inl ⟨_, _, rfl, run_takeDeferred HKE.out, ?_⟩⟩
      refine ⟨by simp, .inl ⟨_, _, rfl, run_takeDeferred (HNE V D2 HN.out HK1.out), ?_⟩⟩
      exact ⟨_, results_none rfl _ _ _, ⟨_, rfl⟩, .inl (HJ.out.putObj _ (HJ.out.putObj _ HJU.out HDV.out HKE.out rfl) HD1.out (HNE V D2 HN.out HK1.out) rfl)⟩
end Go.Proofs.Ythjghofjdcepmaa
