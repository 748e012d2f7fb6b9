import Derived.Test.YthjghofjdcepmaaGm25
import Derived.OwnWalkIn
import Derived.TacticsInMore
import Derived.WalkKit
/- Stage 14: the page's examples. -/
namespace Go.Proofs.Ythjghofjdcepmaa
set_option maxRecDepth 100000
open Go.RowKit Go.Shelf
def kS : Nat → Gr
  | 0 => Gr.new 64
  | j + 1 => (kS j).pt j j
def kT : Nat → Gr
  | 0 => (kS 9).pt 9 9
  | j + 1 => (kT j).st
theorem ks_ok : ∀ j, j < 4294967296 → (kS j).Ok
  | 0, _ => Gr.ok_new (by decide) (by decide)
  | j + 1, h => Gr.ok_pt (ks_ok j (by omega)) (by omega) (by omega)
theorem kt_ok : ∀ j, (kT j).Ok
  | 0 => Gr.ok_pt (ks_ok 9 (by decide)) (by decide) (by decide)
  | j + 1 => Gr.ok_st (kt_ok j)
section
variable {PG : World → Nat → Gr → (Nat → Prop) → Prop} {g : Nat}
/-- A call that turns nothing old, on what stands there. -/
theorem sread {σ : Type} {PA : World → Nat → σ → (Nat → Prop) → Prop} {w W : World} {X : Nat → Prop} {p : Nat} {s : σ} (h : StG PA w X W p s) {Q : Prop} (hc : ∀ F, PA W p s F → Q) : Q := by
  obtain ⟨F, hF, _⟩ := h
  exact hc F hF
set_option maxHeartbeats 2000000 in
theorem gknown_any (HP0 : GroP PG g) (w : World) : Calls Try.prog 6 #[] w (ret (.bool true) w) := by
  have HP := Lib.hid HP0
  have HN := Lib.hid (HP0.new 64 w (by decide))
  have hbd : ∀ (a b : Int) (W : World), (Instr.build 34 #[(0, .int .u64 a), (1, .int .u32 b)]).run Try.prog W = .ok (.agg #[.int .u64 a, .int .u32 b]) W := fun a b W => by kernel_rfl
  have HE : Hid (∀ j, j < 9 → (kS j).ptE j = 0) := Lib.hid (by decide)
  clear HP0
  go_enter Try.func6, Try.ntmps6
  go_wp2_with (first
    | (go_at_call 7
       refine HN.out.mono ?_
       rintro e u0 ⟨p, F, rfl, hf, hn, hb⟩
       have HS0 := Lib.hid (StG.start ⟨F, hf, hn⟩ hb)
       clear hf hn hb))
  go_loopw [21] (fun vi wr => ∃ j : Nat, j ≤ 9 ∧ vi = .int .u32 (j : Int) ∧ StG PG w (fun _ => False) wr p (kS j)) (fun vi _ => 9 - (intOf vi).toNat)
  case atStart => exact ⟨0, by omega, rfl, HS0.out⟩
  case round =>
    obtain ⟨j, hj, rfl, hs⟩ := hrel
    have HS := Lib.hid hs
    clear hs HS0
    by_cases c1 : j < 9
    · have c1' : (j : Int) < 9 := by omega
      have zu : IntKind.u64.wrap (j : Int) = (j : Int) := by rw [IntKind.wrap_u64]; omega
      have zi : IntKind.u32.wrap ((j : Int) + 1) = (j : Int) + 1 := by rw [IntKind.wrap_u32]; omega
      have HEJ := Lib.hid (HE.out j c1)
      have HPU := Lib.hid (HS.out.call fun F hF => HP.out.put hF (ks_ok j (by omega)) j j (by omega) (by omega))
      rw [HEJ.out] at HPU
      go_wp2_with (first
        | (go_at_call 10
           refine HPU.out.mono ?_
           rintro e u1 ⟨rfl, hst, _⟩
           have HS1 := Lib.hid hst
           clear hst))
      go_roundw
      case rel => exact ⟨j + 1, by omega, by go_num, HS1.out⟩
      case measure => simp [intOf]; omega
    · have c1' : ¬ (j : Int) < 9 := by omega
      have hj9 : j = 9 := by omega
      have HS9 : Hid (StG PG w (fun _ => False) wr p (kS 9)) := Lib.hid (by rw [← hj9]; exact HS.out)
      clear hj9 HS
      go_upto_region 10 with fail
      clear c1 c1' hj
      have HPLu2 := Lib.hid (sread HS9.out fun F hF => HP.out.places hF (ks_ok 9 (by decide)))
      go_upto_region 11 with (first
        | (go_at_call 19
           refine HPLu2.out.mono ?_
           rintro e u2 ⟨rfl, hb⟩
           rw [show (kS 9).now.n = 16 from by decide, show (kS 9).places = 0 from by decide]
           have HSu2 := Lib.hid (HS9.out.step HP.out.foot hb)
           clear hb))
      have HPU := Lib.hid (HSu2.out.call fun F hF => HP.out.put hF (ks_ok 9 (by decide)) 9 9 (by decide) (by decide))
      rw [show (kS 9).ptE 9 = 0 from by decide] at HPU
      go_upto_region 12 with (first
        | (go_at_call 10
           refine HPU.out.mono ?_
           rintro e u3 ⟨rfl, hst, _⟩
           have HS3 : Hid (StG PG w (fun _ => False) u3 p (kT 0)) := Lib.hid hst
           clear hst))
      have HPLu4 := Lib.hid (sread HS3.out fun F hF => HP.out.places hF (kt_ok 0))
      go_upto_region 13 with (first
        | (go_at_call 19
           refine HPLu4.out.mono ?_
           rintro e u4 ⟨rfl, hb⟩
           rw [show (kT 0).now.n = 16 from by decide, show (kT 0).places = 64 from by decide]
           have HSu4 := Lib.hid (HS3.out.step HP.out.foot hb)
           clear hb))
      go_wp2_with fail
      go_loopw [45] (fun vi wr => ∃ j : Nat, j ≤ 16 ∧ vi = .int .i64 (j : Int) ∧ StG PG w (fun _ => False) wr p (kT j)) (fun vi _ => 16 - (intOf vi).toNat)
      case atStart => exact ⟨0, by omega, rfl, HSu4.out⟩
      case round =>
        obtain ⟨j, hj, rfl, hs⟩ := hrel
        have HS := Lib.hid hs
        clear hs
        by_cases c1 : j < 16
        · have c1' : (j : Int) < 16 := by omega
          have zi : IntKind.i64.wrap ((j : Int) + 1) = (j : Int) + 1 := by rw [IntKind.wrap_i64]; omega
          have HST := Lib.hid (HS.out.call fun F hF => HP.out.step hF (kt_ok j))
          obtain ⟨mv, hmv⟩ : ∃ m, m = (kT j).st.mv := ⟨_, rfl⟩
          rw [← hmv] at HST
          clear hmv
          go_wp2_with (first
            | (go_at_call 14
               refine HST.out.mono ?_
               rintro e u5 ⟨rfl, hst, _⟩
               have HS5 := Lib.hid hst
               clear hst))
          go_roundw
          case rel => exact ⟨j + 1, by omega, by go_num, HS5.out⟩
          case measure => simp [intOf]; omega
        · have c1' : ¬ (j : Int) < 16 := by omega
          have hj9 : j = 16 := by omega
          have HS6 : Hid (StG PG w (fun _ => False) wr p (kT 16)) := Lib.hid (by rw [← hj9]; exact HS.out)
          clear hj9 HS
          go_upto_region 17 with fail
          clear c1 c1' hj
          have HPLu7 := Lib.hid (sread HS6.out fun F hF => HP.out.places hF (kt_ok 16))
          go_upto_region 18 with (first
            | (go_at_call 19
               refine HPLu7.out.mono ?_
               rintro e u7 ⟨rfl, hb⟩
               rw [show (kT 16).now.n = 64 from by decide, show (kT 16).places = 0 from by decide]
               have HSu7 := Lib.hid (HS6.out.step HP.out.foot hb)
               clear hb))
          have HEN := Lib.hid (sread HSu7.out fun F hF => HP.out.entries hF (kt_ok 16))
          rw [show (kT 16).entries = 10 from by decide] at HEN
          have HB7 := Lib.hid HSu7.out.below
          go_wp2_with (first
            | (go_at_call 21
               refine HEN.out.mono ?_
               rintro e u8 ⟨rfl, hb⟩
               have HB8 := Lib.hid (HB7.out.trans (hb.mono HB7.out.size))
               clear hb))
          go_ret
          exact ⟨rfl, HB8.out⟩
end
end Go.Proofs.Ythjghofjdcepmaa
/- Stage 14: ResizeNone. -/
namespace Go.Proofs.Ythjghofjdcepmaa
set_option maxRecDepth 100000
open Go.RowKit Go.Shelf
attribute [local go_sem] Oper.semAt_some
/-- What a growing table that is not there, or was not made, answers, whatever is laid behind w. -/
structure NonG (g : Nat) (pa : Option Addr) (w : World) : Prop where
  put : ∀ W, Below w.heap.size w W → ∀ h x : Nat, Calls Try.prog 10 #[.pointer pa, .agg #[.int .u64 (h : Int), .int .u32 (x : Int)]] W (ret (.int .i64 1) W)
  drop : ∀ W, Below w.heap.size w W → ∀ h x : Nat, Calls Try.prog 12 #[.pointer pa, .agg #[.int .u64 (h : Int), .int .u32 (x : Int)]] W (ret (.int .i64 1) W)
  find : ∀ W, Below w.heap.size w W → ∀ (h : Nat) (fid : FuncId) (cap : Array Value), Calls Try.prog 54 #[.pointer pa, .int .u64 (h : Int), .func (.func fid) #[] cap] W (ret (.tuple #[.int .u32 0, .bool false]) W)
  step : ∀ W, Below w.heap.size w W → Calls Try.prog 14 #[.pointer pa] W (ret (.bool false) W)
  left : ∀ W, Below w.heap.size w W → Calls Try.prog 22 #[.pointer pa] W (ret (.int .i64 0) W)
  places : ∀ W, Below w.heap.size w W → Calls Try.prog 19 #[.pointer pa] W (ret (.tuple #[.int .i64 0, .int .i64 0]) W)
  entries : ∀ W, Below w.heap.size w W → Calls Try.prog 21 #[.pointer pa] W (ret (.int .i64 0) W)
  marks : ∀ W, Below w.heap.size w W → Calls Try.prog 23 #[.pointer pa] W (ret (.int .i64 0) W)
  copy : ∀ W, Below w.heap.size w W → Calls Try.prog 16 #[.pointer pa] W (ret (.pointer none) W)
  all : ∀ W, Below w.heap.size w W → Calls Try.prog 24 #[.pointer pa] W fun e w' => ∃ lb Fi, e = .returned (.func (.func g) #[] lb) ∧ Below W.heap.size W w' ∧ (∀ k, Fi k → k < w'.heap.size ∧ (k < w.heap.size ∨ W.heap.size ≤ k)) ∧ ItC gEnc g lb [] Fi w'
theorem NonG.step' {g : Nat} {pa : Option Addr} {w w' : World} (h : NonG g pa w) (hb : Below w.heap.size w w') : NonG g pa w' :=
  have q := fun W (k : Below w'.heap.size w' W) => hb.trans (k.mono hb.size)
  ⟨fun W k => h.put W (q W k), fun W k => h.drop W (q W k), fun W k => h.find W (q W k), fun W k => h.step W (q W k), fun W k => h.left W (q W k), fun W k => h.places W (q W k), fun W k => h.entries W (q W k), fun W k => h.marks W (q W k), fun W k => h.copy W (q W k), fun W k => (h.all W (q W k)).mono fun e w2 ⟨lb, Fi, h1, h2, h3, h4⟩ => ⟨lb, Fi, h1, h2, fun k hk => ⟨(h3 k hk).1, (h3 k hk).2.imp (fun z => Nat.lt_of_lt_of_le z hb.size) id⟩, h4⟩⟩
section
variable {PG : World → Nat → Gr → (Nat → Prop) → Prop} {g : Nat}
theorem has_none {pa : Option Addr} {w : World} (HN : NonG g pa w) (h x : Nat) : Calls Try.prog 20 #[.pointer pa, .agg #[.int .u64 (h : Int), .int .u32 (x : Int)]] w (ret (.bool false) w) := by
  have HB0 : Hid (Below w.heap.size w (w.alloc (.cells #[.int .u64 (h : Int), .int .u32 (x : Int)] 34))) := Lib.hid (below_alloc w _)
  have HE0 : Hid ((w.alloc (.cells #[.int .u64 (h : Int), .int .u32 (x : Int)] 34)).heap[w.heap.size]? = some (.cells #[.int .u64 (h : Int), .int .u32 (x : Int)] 34 (0, 0))) := Lib.hid (heap_alloc_new w _)
  have h1 := Lib.hid (HN.find (w.alloc (.cells #[.int .u64 (h : Int), .int .u32 (x : Int)] 34)) HB0.out h 55 #[.pointer (some ⟨w.heap.size, 0, none⟩)])
  obtain ⟨r, hr⟩ : ∃ r, r = w.heap.size := ⟨_, rfl⟩
  rw [← hr] at HE0 h1
  clear HN
  go_enter Try.func20, Try.ntmps20
  go_upto_region 1 with fail
  change Code.wp _ _ _ _ (w.alloc (.cells #[.int .u64 (h : Int), .int .u32 (x : Int)] 34))
  rw [← hr]
  clear hr
  generalize w.alloc (.cells #[.int .u64 (h : Int), .int .u32 (x : Int)] 34) = u0 at *
  have x0 : u0.cell? ⟨r, 0, none⟩ = some (.int .u64 (h : Int)) := blk_cell HE0.out 0
  go_upto_region 2 with (first
    | (go_at_call 54
       refine h1.out.mono ?_
       rintro e u1 ⟨rfl, hb⟩
       have HB1 := Lib.hid (HB0.out.trans (hb.mono HB0.out.size))
       clear hb x0))
  go_wp2_with fail
  go_ret
  exact ⟨rfl, HB1.out⟩
set_option maxHeartbeats 1000000 in
theorem told_none (eg : ∀ args w, (callFunc g args).run Try.prog w = .ok (.enter g args) w) {pa : Option Addr} {w : World} (HN : NonG g pa w) : Calls Try.prog 25 #[.pointer pa] w (ret (.int .i64 0) w) := by
  have HI := Lib.hid HN.all
  clear HN
  have HB0 : Hid (Below w.heap.size w (w.alloc (.cells #[.int .i64 0] 3))) := Lib.hid (below_alloc w _)
  refine (callsIn_wide (n := 13)).1 ?_
  refine callsIn_of_wp_marks Try.func25 rfl trivial ?_ rfl
  simp only [Try.ntmps25, List.size_toArray, List.length_cons, List.length_nil, Nat.reduceAdd, Nat.reduceSub, Array.replicate_succ, Array.replicate_zero, List.push_toArray, List.append_toArray, List.nil_append, List.cons_append]
  gi_wp2_with (refine ⟨trivial, ?_⟩; gi_at_call 24; refine (callsIn_wide.2 (HI.out _ HB0.out)).mono ?_; rintro e u ⟨lb, Fi, rfl, hb, hFi, hst⟩)
  have HB1 : Hid (Below w.heap.size w u) := Lib.hid (HB0.out.trans (hb.mono HB0.out.size))
  have HC : Hid (u.heap[w.heap.size]? = some (.cells #[.int .i64 0] 3 (0, 0))) := Lib.hid ((hb.block _ (by simp)).trans (heap_alloc_new w _))
  have hRo : ∀ k, k = w.heap.size → k < u.heap.size := fun k e => by rw [e]; exact lt_heap HC.out
  have hRb : ∀ k, Fi k → ¬ (k = w.heap.size) := fun k hk hr => by
    obtain ⟨h1, h2⟩ := hFi k hk
    have hz : (w.alloc (.cells #[.int .i64 0] 3)).heap.size = w.heap.size + 1 := by simp
    omega
  clear hb HI HB0
  refine wpIn_rangeFunc_Q rfl (by omega) (gf := g) (lb := lb) rfl trivial eg (hst (fun k => k = w.heap.size) hRb hRo) (Below.refl _ _) (fun _ => rfl) keptC_t keptC_b
    (fun pre W => (W.cell? ⟨w.heap.size, 0, none⟩ = some (.int .i64 0) ∧ W.frozen? ⟨w.heap.size, 0, none⟩ = false) ∧ Below w.heap.size w W)
    (fun _ _ _ => False)
    (OwnFrom.and (Own.from (fun s A B row hs hg hr => ⟨cell_kept hs.1 hg hr, (frozen_kept hs.1 hg hr).trans hs.2⟩) _) (ownFrom_below (Nat.le_refl _) HB1.out.size))
    (fun _ _ _ _ _ hs _ _ => hs)
    ⟨⟨blk_cell HC.out 0, blk_free HC.out 0⟩, HB1.out⟩
    (fun _ _ _ _ => False) (fun _ _ _ _ _ _ _ hs _ _ => hs) ?assign ?body ?done ?stop
  case assign =>
    rintro l pre x W _ hp
    have := hp.length_le
    simp at this
  case body =>
    rintro l' pre x a' W hp _
    have := hp.length_le
    simp at this
  case done =>
    rintro D W hD ⟨⟨hc, _⟩, hB⟩ hK
    gi_wp2
    refine ⟨by simp, .inl ⟨_, _, rfl, run_takeDeferred hK, ?_⟩⟩
    exact ⟨_, results_tmp rfl _ _ _, rfl, hB.trans (belowK_b (w := w) (Nat.le_refl _) W D _ _ (Nat.le_trans HB1.out.size hD) hK rfl rfl)⟩
  case stop =>
    rintro D c pre W _ _ h _
    exact h.elim
set_option maxHeartbeats 4000000 in
theorem gnone_any (HP0 : GroP PG g) (HNil : ∀ w, NonG g none w) (HZero : ∀ (w : World) (b : Nat), w.heap[b]? = some (.cells #[.int .i64 0, .pointer none, .pointer none, .int .i64 0] 51 (0, 0)) → NonG g (some ⟨b, 0, none⟩) w)
    (h x : Nat) (w : World) : Calls Try.prog 5 #[.agg #[.int .u64 (h : Int), .int .u32 (x : Int)]] w (ret (.bool true) w) := by
  have HP := Lib.hid HP0
  have HM0 : Hid (Mem w ((w.alloc (.cells #[.int .u64 (h : Int), .int .u32 (x : Int)] 34)).alloc (.cells #[.int .i64 0, .pointer none, .pointer none, .int .i64 0] 51)) [(w.heap.size, .cells #[.int .u64 (h : Int), .int .u32 (x : Int)] 34 (0, 0)), (w.heap.size + 1, .cells #[.int .i64 0, .pointer none, .pointer none, .int .i64 0] 51 (0, 0))]) := Lib.hid (by
    have h := ((Mem.nil w).alloc (.cells #[.int .u64 (h : Int), .int .u32 (x : Int)] 34)).alloc (.cells #[.int .i64 0, .pointer none, .pointer none, .int .i64 0] 51)
    simpa using h)
  have HZ := Lib.hid (HZero _ _ (HM0.out.get 1 rfl))
  have HNL := Lib.hid HNil
  have HEG := Lib.hid HP0.eg
  clear HP0 HZero HNil
  go_enter Try.func5, Try.ntmps5
  go_upto_region 2 with fail
  change Code.wp _ _ _ _ ((w.alloc (.cells #[.int .u64 (h : Int), .int .u32 (x : Int)] 34)).alloc (.cells #[.int .i64 0, .pointer none, .pointer none, .int .i64 0] 51))
  have HM1 := HM0
  clear HM0
  generalize (w.alloc (.cells #[.int .u64 (h : Int), .int .u32 (x : Int)] 34)).alloc (.cells #[.int .i64 0, .pointer none, .pointer none, .int .i64 0] 51) = u1 at *
  obtain ⟨b1, hb1⟩ : ∃ b, b = w.heap.size := ⟨_, rfl⟩
  obtain ⟨b3, hb3⟩ : ∃ b, b = w.heap.size + 1 := ⟨_, rfl⟩
  rw [← hb3, ← hb1] at HM1
  rw [← hb3] at HZ
  rw [← hb3, ← hb1]
  clear hb3 hb1
  go_upto_region 3 with fail
  have HM2 := Lib.hid (HM1.out.alloc (.cells #[.pointer none, .pointer (some ⟨b3, 0, none⟩)] 24))
  have HB12 : Hid (Below u1.heap.size u1 (u1.alloc (.cells #[.pointer none, .pointer (some ⟨b3, 0, none⟩)] 24))) := Lib.hid (below_alloc u1 _)
  obtain ⟨b8, hb8⟩ : ∃ b, b = u1.heap.size := ⟨_, rfl⟩
  rw [← hb8] at HM2 ⊢
  clear hb8 HM1
  generalize u1.alloc (.cells #[.pointer none, .pointer (some ⟨b3, 0, none⟩)] 24) = u2 at *
  go_loopw [10] (fun vi wr => ∃ k : Nat, k ≤ 2 ∧ vi = .int .i64 (k : Int) ∧ Below u2.heap.size u2 wr) (fun vi _ => 2 - (intOf vi).toNat)
  case atStart => exact ⟨0, Nat.zero_le _, rfl, Below.refl _ _⟩
  case round =>
    obtain ⟨k, hk, rfl, hb⟩ := hrel
    have HB0 := Lib.hid hb
    have HMr := Lib.hid (HM2.out.step hb)
    by_cases hk2 : k < 2
    · obtain ⟨pa, hpa, HNT⟩ : ∃ pa, wr.cell? ⟨b8, k, none⟩ = some (.pointer pa) ∧ NonG g pa wr := by
        have h8 := HMr.out.get 2 rfl
        rcases (show k = 0 ∨ k = 1 by omega) with rfl | rfl
        · exact ⟨none, blk_cell h8 0, HNL.out wr⟩
        · exact ⟨some ⟨b3, 0, none⟩, blk_cell h8 1, HZ.out.step' (HB12.out.trans (hb.mono HB12.out.size))⟩
      have HNT := Lib.hid HNT
      have HHA := Lib.hid fun W (k : Below wr.heap.size wr W) => has_none (HNT.out.step' k) h x
      have HTD := Lib.hid fun W (k : Below wr.heap.size wr W) => told_none HEG.out (HNT.out.step' k)
      have i0 : (0 : Int) ≤ (k : Int) := by omega
      have i1 : (k : Int) < 2 := by omega
      have i2 : ((k : Int)).toNat = k := by omega
      have zk : IntKind.i64.wrap ((k : Int) + 1) = (k : Int) + 1 := by rw [IntKind.wrap_i64]; omega
      have h99 : ∀ lb (V : World), (binOp .eql 54 (.func (.func g) #[] lb) .nilFunc).run Try.prog V = .ok (.bool false) V := fun _ _ => by kernel_rfl
      clear hb
      go_upto_region 6 with (first
        | (go_at_call 19
           refine (HNT.out.places wr (Below.refl _ _)).mono ?_
           rintro e v1 ⟨rfl, hb⟩
           have HB1 := Lib.hid hb
           clear hb))
      clear hpa
      have e0 : v1.cell? ⟨b1, 0, none⟩ = some (.int .u64 (h : Int)) := blk_cell ((HMr.out.step HB1.out).get 0 rfl) 0
      have e1 : v1.cell? ⟨b1, 1, none⟩ = some (.int .u32 (x : Int)) := blk_cell ((HMr.out.step HB1.out).get 0 rfl) 1
      go_wp2_with (first
        | (go_at_call 10
           refine (HNT.out.put v1 HB1.out h x).mono ?_
           rintro e v2 ⟨rfl, hb⟩
           have HB2 := Lib.hid (HB1.out.trans (hb.mono HB1.out.size))
           clear e0 e1 hb
           have e0 : v2.cell? ⟨b1, 0, none⟩ = some (.int .u64 (h : Int)) := blk_cell ((HMr.out.step HB2.out).get 0 rfl) 0
           have e1 : v2.cell? ⟨b1, 1, none⟩ = some (.int .u32 (x : Int)) := blk_cell ((HMr.out.step HB2.out).get 0 rfl) 1
           skip)
        | (go_at_call 12
           refine (HNT.out.drop v2 HB2.out h x).mono ?_
           rintro e v3 ⟨rfl, hb⟩
           have HB3 := Lib.hid (HB2.out.trans (hb.mono HB2.out.size))
           clear e0 e1 hb
           have e0 : v3.cell? ⟨b1, 0, none⟩ = some (.int .u64 (h : Int)) := blk_cell ((HMr.out.step HB3.out).get 0 rfl) 0
           have e1 : v3.cell? ⟨b1, 1, none⟩ = some (.int .u32 (x : Int)) := blk_cell ((HMr.out.step HB3.out).get 0 rfl) 1
           skip)
        | (go_at_call 20
           refine (HHA.out v3 HB3.out).mono ?_
           rintro e v4 ⟨rfl, hb⟩
           have HB4 := Lib.hid (HB3.out.trans (hb.mono HB3.out.size))
           clear hb)
        | (go_at_call 14
           refine (HNT.out.step v4 HB4.out).mono ?_
           rintro e v5 ⟨rfl, hb⟩
           have HB5 := Lib.hid (HB4.out.trans (hb.mono HB4.out.size))
           clear hb)
        | (go_at_call 22
           refine (HNT.out.left v5 HB5.out).mono ?_
           rintro e v6 ⟨rfl, hb⟩
           have HB6 := Lib.hid (HB5.out.trans (hb.mono HB5.out.size))
           clear hb)
        | (go_at_call 21
           refine (HNT.out.entries v6 HB6.out).mono ?_
           rintro e v7 ⟨rfl, hb⟩
           have HB7 := Lib.hid (HB6.out.trans (hb.mono HB6.out.size))
           clear hb)
        | (go_at_call 23
           refine (HNT.out.marks v7 HB7.out).mono ?_
           rintro e v8 ⟨rfl, hb⟩
           have HB8 := Lib.hid (HB7.out.trans (hb.mono HB7.out.size))
           clear hb)
        | (go_at_call 16
           refine (HNT.out.copy v8 HB8.out).mono ?_
           rintro e v9 ⟨rfl, hb⟩
           have HB9 := Lib.hid (HB8.out.trans (hb.mono HB8.out.size))
           clear hb)
        | (go_at_call 24
           refine (HNT.out.all v9 HB9.out).mono ?_
           rintro e v10 ⟨lb, Fi, rfl, hb, _, _⟩
           have HB10 := Lib.hid (HB9.out.trans (hb.mono HB9.out.size))
           clear hb)
        | (go_at_call 25
           refine (HTD.out v10 HB10.out).mono ?_
           rintro e v11 ⟨rfl, hb⟩
           have HB11 := Lib.hid (HB10.out.trans (hb.mono HB10.out.size))
           clear hb))
      go_roundw
      case rel => exact ⟨k + 1, by omega, by go_num, HB0.out.trans (HB11.out.mono HB0.out.size)⟩
      case measure => simp [intOf]; omega
    · obtain rfl : k = 2 := by omega
      have i1 : ¬ (((2 : Nat) : Int)) < 2 := by omega
      clear hb
      have HBW := Lib.hid HMr.out.below
      have HKN := Lib.hid (gknown_any HP.out wr)
      go_wp2_with (first
        | (go_at_call 6
           refine HKN.out.mono ?_
           rintro e v4 ⟨rfl, hb⟩
           have HB4 := Lib.hid hb
           clear hb))
      go_ret
      exact ⟨rfl, HBW.out.trans (HB4.out.mono HBW.out.size)⟩
end
end Go.Proofs.Ythjghofjdcepmaa
