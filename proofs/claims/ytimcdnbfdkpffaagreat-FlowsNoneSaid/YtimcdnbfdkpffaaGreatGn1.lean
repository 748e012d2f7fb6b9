import Derived.OwnWalkIn
import Derived.TacticsInMore
import Derived.WalkKit
import Derived.Test.YtimcdnbfdkpffaaGreatGn0
namespace Go.Proofs.YtimcdnbfdkpffaaGreat
set_option maxRecDepth 100000
open Go.RowKit Go.Shelf
attribute [local go_sem] Oper.semAt_some
/-- A flow, as All hands it on. -/
def fEnc (r : Fr) : Array Value := #[.agg r.c]
/-- What flows that are not there, or were not made, answer, whatever is laid behind w. -/
structure NonF (g : Nat) (pa : Option Addr) (w : World) : Prop where
  get : ∀ W, Below w.heap.size w W → ∀ t : Tp, Calls Tryz.prog 20 #[.pointer pa, .agg t.c] W (ret (.tuple #[.agg flz, .bool false]) W)
  tick : ∀ W, Below w.heap.size w W → Calls Tryz.prog 14 #[.pointer pa] W (ret (.tuple #[.slice none 0 0, .int .i64 1]) W)
  pin : ∀ W, Below w.heap.size w W → ∀ (t : Tp) (q : Pn) (st : Nat), Calls Tryz.prog 16 #[.pointer pa, .agg t.c, .agg q.c, .int .u8 (st : Int)] W (ret (.int .i64 1) W)
  touch : ∀ W, Below w.heap.size w W → ∀ (t : Tp) (st : Nat), Calls Tryz.prog 21 #[.pointer pa, .agg t.c, .int .u8 (st : Int)] W (ret (.int .i64 1) W)
  end_ : ∀ W, Below w.heap.size w W → ∀ t : Tp, Calls Tryz.prog 13 #[.pointer pa, .agg t.c] W (ret (.int .i64 1) W)
  set_ : ∀ W, Below w.heap.size w W → ∀ a b c d : Nat, Calls Tryz.prog 22 #[.pointer pa, tmoc a b c d] W (ret (.int .i64 1) W)
  move : ∀ W, Below w.heap.size w W → ∀ n : Int, Calls Tryz.prog 18 #[.pointer pa, .int .i64 n] W (ret (.int .i64 0) W)
  len : ∀ W, Below w.heap.size w W → Calls Tryz.prog 24 #[.pointer pa] W (ret (.int .i64 0) W)
  left : ∀ W, Below w.heap.size w W → Calls Tryz.prog 19 #[.pointer pa] W (ret (.int .i64 0) W)
  now : ∀ W, Below w.heap.size w W → Calls Tryz.prog 25 #[.pointer pa] W (ret (.int .u64 0) W)
  copy : ∀ W, Below w.heap.size w W → Calls Tryz.prog 12 #[.pointer pa] W (ret (.pointer none) W)
  all : ∀ W, Below w.heap.size w W → Calls Tryz.prog 26 #[.pointer pa] W fun e w' => ∃ lb Fi, e = .returned (.func (.func g) #[] lb) ∧ Below W.heap.size W w' ∧ (∀ k, Fi k → k < w'.heap.size ∧ (k < w.heap.size ∨ W.heap.size ≤ k)) ∧ ItC fEnc g lb [] Fi w'
theorem NonF.step' {g : Nat} {pa : Option Addr} {w w' : World} (h : NonF g pa w) (hb : Below w.heap.size w w') : NonF g pa w' :=
  have k : ∀ W, Below w'.heap.size w' W → Below w.heap.size w W := fun _ q => hb.trans (q.mono hb.size)
  ⟨fun W q => h.get W (k W q), fun W q => h.tick W (k W q), fun W q => h.pin W (k W q), fun W q => h.touch W (k W q), fun W q => h.end_ W (k W q), fun W q => h.set_ W (k W q), fun W q => h.move W (k W q), fun W q => h.len W (k W q), fun W q => h.left W (k W q), fun W q => h.now W (k W q), fun W q => h.copy W (k W q), fun W q => by
    refine (h.all W (k W q)).mono ?_
    rintro e w' ⟨lb, Fi, rfl, hb', hF, hi⟩
    exact ⟨lb, Fi, rfl, hb', fun j hj => ⟨(hF j hj).1, by
      rcases (hF j hj).2 with r | r
      · exact .inl (Nat.lt_of_lt_of_le r hb.size)
      · exact .inr r⟩, hi⟩⟩
section
variable {PF : World → Nat → Fl → (Nat → Prop) → Prop} {g : Nat}
set_option maxHeartbeats 1000000 in
theorem ftold_none (eg : ∀ args w, (callFunc g args).run Tryz.prog w = .ok (.enter g args) w) {pa : Option Addr} {w : World} (HN : NonF g pa w) : Calls Tryz.prog 27 #[.pointer pa] w (ret (.int .i64 0) w) := by
  have HI := Lib.hid HN.all
  clear HN
  have HB0 : Hid (Below w.heap.size w (w.alloc (.cells #[.int .i64 0] 3))) := Lib.hid (below_alloc w _)
  refine (callsIn_wide (n := 13)).1 ?_
  refine callsIn_of_wp_marks Tryz.func27 rfl trivial ?_ rfl
  simp only [Tryz.ntmps27, List.size_toArray, List.length_cons, List.length_nil, Nat.reduceAdd, Nat.reduceSub, Array.replicate_succ, Array.replicate_zero, List.push_toArray, List.append_toArray, List.nil_append, List.cons_append]
  gi_wp2_with (refine ⟨trivial, ?_⟩; gi_at_call 26; refine (callsIn_wide.2 (HI.out _ HB0.out)).mono ?_; rintro e u ⟨lb, Fi, rfl, hb, hFi, hst⟩)
  have HB1 : Hid (Below w.heap.size w u) := Lib.hid (HB0.out.trans (hb.mono HB0.out.size))
  have HC : Hid (u.heap[w.heap.size]? = some (.cells #[.int .i64 0] 3 (0, 0))) := Lib.hid ((hb.block _ (by simp)).trans (heap_alloc_new w _))
  have hRo : ∀ k, k = w.heap.size → k < u.heap.size := fun k e => by rw [e]; exact lt_heap HC.out
  have hRb : ∀ k, Fi k → ¬ (k = w.heap.size) := fun k hk hr => by
    obtain ⟨h1, h2⟩ := hFi k hk
    have hz : (w.alloc (.cells #[.int .i64 0] 3)).heap.size = w.heap.size + 1 := by simp
    omega
  clear hb HI HB0
  refine wpIn_rangeFunc_Q rfl (by omega) (gf := g) (lb := lb) rfl trivial eg (hst (fun k => k = w.heap.size) hRb hRo) (Below.refl _ _) (fun _ => rfl) keptC_t keptC_b
    (fun pre W => (W.cell? ⟨w.heap.size, 0, none⟩ = some (.int .i64 0) ∧ W.frozen? ⟨w.heap.size, 0, none⟩ = false) ∧ Below w.heap.size w W)
    (fun _ _ _ => False)
    (OwnFrom.and (Own.from (fun s A B row hs hg hr => ⟨cell_kept hs.1 hg hr, (frozen_kept hs.1 hg hr).trans hs.2⟩) _) (ownFrom_below (Nat.le_refl _) HB1.out.size))
    (fun _ _ _ _ _ hs _ _ => hs)
    ⟨⟨blk_cell HC.out 0, blk_free HC.out 0⟩, HB1.out⟩
    (fun _ _ _ _ => False) (fun _ _ _ _ _ _ _ hs _ _ => hs) ?assign ?body ?done ?stop
  case assign =>
    rintro l pre x W _ hp
    have := hp.length_le
    simp at this
  case body =>
    rintro l' pre x a' W hp _
    have := hp.length_le
    simp at this
  case done =>
    rintro D W hD ⟨⟨hc, _⟩, hB⟩ hK
    gi_wp2
    refine ⟨by simp, .inl ⟨_, _, rfl, run_takeDeferred hK, ?_⟩⟩
    exact ⟨_, results_tmp rfl _ _ _, rfl, hB.trans (belowK_b (w := w) (Nat.le_refl _) W D _ _ (Nat.le_trans HB1.out.size hD) hK rfl rfl)⟩
  case stop =>
    rintro D c pre W _ _ h _
    exact h.elim
set_option maxHeartbeats 4000000 in
theorem fnone_any (HP0 : FloP PF g) (HNil : ∀ w, NonF g none w) (HZero : ∀ (w : World) (b : Nat), w.heap[b]? = some (.cells #[.pointer none, .pointer none, .int .u32 0, .int .u32 0, .int .u32 0, .int .u32 0, .slice none 0 0] 68 (0, 0)) → NonF g (some ⟨b, 0, none⟩) w)
    (t : Tp) (n : Int) (w : World) : Calls Tryz.prog 5 #[.agg t.c, .int .i64 n] w (ret (.bool true) w) := by
  obtain ⟨C, hC⟩ : ∃ C, C = t.c := ⟨_, rfl⟩
  rw [← hC]
  have HCS : Hid (C.size = 36) := Lib.hid (by rw [hC]; rfl)
  have HC := Lib.hid hC
  clear hC
  have HI36 : Hid ((Tryz.prog.info? 38).map (·.size) = some 36) := Lib.hid (by kernel_rfl)
  have HI41 : Hid ((Tryz.prog.info? 59).map (·.size) = some 41) := Lib.hid (by kernel_rfl)
  obtain ⟨Z, hZ⟩ : ∃ Z, Z = flz := ⟨_, rfl⟩
  have HZS : Hid (Z.size = 41) := Lib.hid (by rw [hZ]; rfl)
  have HZO : Hid (Z.all (·.oneCell') = true) := Lib.hid (by rw [hZ]; simp [flz, tupc, Value.oneCell'])
  have HZF := Lib.hid hZ
  clear hZ
  have HKN := Lib.hid fun W => fknown_any HP0 W
  have HTW := Lib.hid two_any
  have HM0 : Hid (Mem w ((w.alloc (.cells C 38)).alloc (.cells #[.pointer none, .pointer none, .int .u32 0, .int .u32 0, .int .u32 0, .int .u32 0, .slice none 0 0] 68)) [(w.heap.size, .cells C 38 (0, 0)), (w.heap.size + 1, .cells #[.pointer none, .pointer none, .int .u32 0, .int .u32 0, .int .u32 0, .int .u32 0, .slice none 0 0] 68 (0, 0))]) := Lib.hid (by
    have h := ((Mem.nil w).alloc (.cells C 38)).alloc (.cells #[.pointer none, .pointer none, .int .u32 0, .int .u32 0, .int .u32 0, .int .u32 0, .slice none 0 0] 68)
    simpa using h)
  have HZ := Lib.hid (HZero _ _ (HM0.out.get 1 rfl))
  have HNL := Lib.hid HNil
  have HEG := Lib.hid HP0.eg
  clear HP0 HZero HNil
  go_enter Tryz.func5, Tryz.ntmps5
  go_upto_region 2 with fail
  change Code.wp _ _ _ _ ((w.alloc (.cells C 38)).alloc (.cells #[.pointer none, .pointer none, .int .u32 0, .int .u32 0, .int .u32 0, .int .u32 0, .slice none 0 0] 68))
  have HM1 := HM0
  clear HM0
  generalize (w.alloc (.cells C 38)).alloc (.cells #[.pointer none, .pointer none, .int .u32 0, .int .u32 0, .int .u32 0, .int .u32 0, .slice none 0 0] 68) = u1 at *
  obtain ⟨b1, hb1⟩ : ∃ b, b = w.heap.size := ⟨_, rfl⟩
  obtain ⟨b3, hb3⟩ : ∃ b, b = w.heap.size + 1 := ⟨_, rfl⟩
  rw [← hb3, ← hb1] at HM1
  rw [← hb3] at HZ
  rw [← hb3, ← hb1]
  clear hb3 hb1
  go_upto_region 3 with fail
  have HM2 := Lib.hid (HM1.out.alloc (.cells #[.pointer none, .pointer (some ⟨b3, 0, none⟩)] 28))
  have HB12 : Hid (Below u1.heap.size u1 (u1.alloc (.cells #[.pointer none, .pointer (some ⟨b3, 0, none⟩)] 28))) := Lib.hid (below_alloc u1 _)
  obtain ⟨b8, hb8⟩ : ∃ b, b = u1.heap.size := ⟨_, rfl⟩
  rw [← hb8] at HM2 ⊢
  clear hb8 HM1
  generalize u1.alloc (.cells #[.pointer none, .pointer (some ⟨b3, 0, none⟩)] 28) = u2 at *
  go_loopw [14] (fun vi wr => ∃ k : Nat, k ≤ 2 ∧ vi = .int .i64 (k : Int) ∧ Below u2.heap.size u2 wr) (fun vi _ => 2 - (intOf vi).toNat)
  case atStart => exact ⟨0, Nat.zero_le _, rfl, Below.refl _ _⟩
  case round =>
    obtain ⟨k, hk, rfl, hb⟩ := hrel
    have HB0 := Lib.hid hb
    have HMr := Lib.hid (HM2.out.step hb)
    by_cases hk2 : k < 2
    · obtain ⟨pa, hpa, HNT⟩ : ∃ pa, wr.cell? ⟨b8, k, none⟩ = some (.pointer pa) ∧ NonF g pa wr := by
        have h8 := HMr.out.get 2 rfl
        rcases (show k = 0 ∨ k = 1 by omega) with rfl | rfl
        · exact ⟨none, blk_cell h8 0, HNL.out wr⟩
        · exact ⟨some ⟨b3, 0, none⟩, blk_cell h8 1, HZ.out.step' (HB12.out.trans (hb.mono HB12.out.size))⟩
      have HNT := Lib.hid HNT
      have HTD := Lib.hid fun W (k : Below wr.heap.size wr W) => ftold_none HEG.out (HNT.out.step' k)
      have HGT : Hid (Calls Tryz.prog 20 #[.pointer pa, .agg C] wr (ret (.tuple #[.agg Z, .bool false]) wr)) := Lib.hid (by rw [HC.out, HZF.out]; exact HNT.out.get wr (Below.refl _ _) t)
      have HPN : Hid (∀ W, Below wr.heap.size wr W → Calls Tryz.prog 16 #[.pointer pa, .agg C, .agg #[.string ⟨#[]⟩, .string ⟨#[]⟩, .int .u64 0], .int .u8 1] W (ret (.int .i64 1) W)) := Lib.hid fun W k => by rw [HC.out]; exact HNT.out.pin W k t ⟨⟨#[]⟩, ⟨#[]⟩, 0⟩ 1
      have HTO : Hid (∀ W, Below wr.heap.size wr W → Calls Tryz.prog 21 #[.pointer pa, .agg C, .int .u8 1] W (ret (.int .i64 1) W)) := Lib.hid fun W k => by rw [HC.out]; exact HNT.out.touch W k t 1
      have HEN : Hid (∀ W, Below wr.heap.size wr W → Calls Tryz.prog 13 #[.pointer pa, .agg C] W (ret (.int .i64 1) W)) := Lib.hid fun W k => by rw [HC.out]; exact HNT.out.end_ W k t
      have i0 : (0 : Int) ≤ (k : Int) := by omega
      have i1 : (k : Int) < 2 := by omega
      have i2 : ((k : Int)).toNat = k := by omega
      have zk : IntKind.i64.wrap ((k : Int) + 1) = (k : Int) + 1 := by rw [IntKind.wrap_i64]; omega
      have h99 : ∀ lb (V : World), (binOp .eql 74 (.func (.func g) #[] lb) .nilFunc).run Tryz.prog V = .ok (.bool false) V := fun _ _ => by kernel_rfl
      have HBr : Hid (Below wr.heap.size wr wr) := Lib.hid (Below.refl _ _)
      clear hb
      go_upto_region 6 with (first
        | (refine wpList_load_roww rfl 38 (.tmp 2) rfl b1 rfl 38 C (0, 0) _ (HMr.out.get 0 rfl) Tryz.underlying38 rfl (HI36.out.trans (by rw [HCS.out])) ?_)
        | (go_at_call 20
           refine HGT.out.mono ?_
           rintro e v0 ⟨rfl, hb⟩
           have HBv := Lib.hid hb
           have HN : Hid ((v0.alloc (.cells flz 59)).heap[v0.heap.size]? = some (.cells flz 59 (0, 0))) := Lib.hid (heap_alloc_new v0 _)
           clear hb)
        | (refine wpList_store_row rfl 59 (.tmp 8) (.tmp 22) rfl v0.heap.size Z rfl rfl 59 flz HN.out (HI41.out.trans (by rw [HZS.out])) (by rw [HZS.out]; rfl) HZO.out ?_))
      change Code.wp _ _ _ _ ((v0.alloc (.cells flz 59)).setRow v0.heap.size Z)
      have HB1 : Hid (Below wr.heap.size wr ((v0.alloc (.cells flz 59)).setRow v0.heap.size Z)) := Lib.hid (below_setRow (HBv.out.alloc HBv.out.size _) HBv.out.size Z)
      generalize (v0.alloc (.cells flz 59)).setRow v0.heap.size Z = v1 at *
      clear HN HGT HBv hpa
      go_upto_region 7 with (first
        | (go_at_call 14
           refine (HNT.out.tick v1 HB1.out).mono ?_
           rintro e v2 ⟨rfl, hb⟩
           have HB2 := Lib.hid (HB1.out.trans (hb.mono HB1.out.size))
           clear hb))
      go_wp2_with (first
        | (refine wpList_load_roww rfl 38 (.tmp 2) rfl b1 rfl 38 C (0, 0) _ ((HMr.out.step HB2.out).get 0 rfl) Tryz.underlying38 rfl (HI36.out.trans (by rw [HCS.out])) ?_)
        | (go_at_call 16
           refine (HPN.out v2 HB2.out).mono ?_
           rintro e v3 ⟨rfl, hb⟩
           have HB3 := Lib.hid (HB2.out.trans (hb.mono HB2.out.size))
           clear hb)
        | (refine wpList_load_roww rfl 38 (.tmp 2) rfl b1 rfl 38 C (0, 0) _ ((HMr.out.step HB3.out).get 0 rfl) Tryz.underlying38 rfl (HI36.out.trans (by rw [HCS.out])) ?_)
        | (go_at_call 21
           refine (HTO.out v3 HB3.out).mono ?_
           rintro e v4 ⟨rfl, hb⟩
           have HB4 := Lib.hid (HB3.out.trans (hb.mono HB3.out.size))
           clear hb)
        | (refine wpList_load_roww rfl 38 (.tmp 2) rfl b1 rfl 38 C (0, 0) _ ((HMr.out.step HB4.out).get 0 rfl) Tryz.underlying38 rfl (HI36.out.trans (by rw [HCS.out])) ?_)
        | (go_at_call 13
           refine (HEN.out v4 HB4.out).mono ?_
           rintro e v5 ⟨rfl, hb⟩
           have HB5 := Lib.hid (HB4.out.trans (hb.mono HB4.out.size))
           clear hb)
        | (go_at_call 23
           refine (HTW.out v5).mono ?_
           rintro e v6 ⟨rfl, hb⟩
           have HB6 := Lib.hid (HB5.out.trans (hb.mono HB5.out.size))
           clear hb)
        | (go_at_call 22
           refine (HNT.out.set_ v6 HB6.out 2 2 2 2).mono ?_
           rintro e v7 ⟨rfl, hb⟩
           have HB7 := Lib.hid (HB6.out.trans (hb.mono HB6.out.size))
           clear hb)
        | (go_at_call 18
           refine (HNT.out.move v7 HB7.out n).mono ?_
           rintro e v8 ⟨rfl, hb⟩
           have HB8 := Lib.hid (HB7.out.trans (hb.mono HB7.out.size))
           clear hb)
        | (go_at_call 24
           refine (HNT.out.len v8 HB8.out).mono ?_
           rintro e v9 ⟨rfl, hb⟩
           have HB9 := Lib.hid (HB8.out.trans (hb.mono HB8.out.size))
           clear hb)
        | (go_at_call 19
           refine (HNT.out.left v9 HB9.out).mono ?_
           rintro e v10 ⟨rfl, hb⟩
           have HB10 := Lib.hid (HB9.out.trans (hb.mono HB9.out.size))
           clear hb)
        | (go_at_call 25
           refine (HNT.out.now v10 HB10.out).mono ?_
           rintro e v11 ⟨rfl, hb⟩
           have HB11 := Lib.hid (HB10.out.trans (hb.mono HB10.out.size))
           clear hb)
        | (go_at_call 12
           refine (HNT.out.copy v11 HB11.out).mono ?_
           rintro e v12 ⟨rfl, hb⟩
           have HB12' := Lib.hid (HB11.out.trans (hb.mono HB11.out.size))
           clear hb)
        | (go_at_call 26
           refine (HNT.out.all v12 HB12'.out).mono ?_
           rintro e v13 ⟨lb, Fi, rfl, hb, _, _⟩
           have HB13 := Lib.hid (HB12'.out.trans (hb.mono HB12'.out.size))
           clear hb)
        | (go_at_call 27
           refine (HTD.out v13 HB13.out).mono ?_
           rintro e v14 ⟨rfl, hb⟩
           have HB14 := Lib.hid (HB13.out.trans (hb.mono HB13.out.size))
           clear hb))
      go_roundw
      case rel => exact ⟨k + 1, by omega, by go_num, HB0.out.trans (HB14.out.mono HB0.out.size)⟩
      case measure => simp [intOf]; omega
    · obtain rfl : k = 2 := by omega
      have i1 : ¬ (((2 : Nat) : Int)) < 2 := by omega
      clear hb
      have HBW := Lib.hid HMr.out.below
      go_wp2_with (first
        | (go_at_call 7
           refine (HKN.out _).mono ?_
           rintro e v4 ⟨rfl, hb⟩
           have HB4 := Lib.hid hb
           clear hb))
      go_ret
      exact ⟨rfl, HBW.out.trans (HB4.out.mono HBW.out.size)⟩
end
end Go.Proofs.YtimcdnbfdkpffaaGreat
