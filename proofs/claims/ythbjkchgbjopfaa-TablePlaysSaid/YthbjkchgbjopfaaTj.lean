/- Stage 13: TableNone. -/
import Derived.Test.YthbjkchgbjopfaaTi
namespace Go.Proofs.Ythbjkchgbjopfaa
set_option maxRecDepth 100000
open Go.RowKit Go.Shelf
/-- What a table that is not there, or was not made, answers, whatever is laid behind w. -/
structure NonT (g : Nat) (pa : Option Addr) (w : World) : Prop where
  put : ∀ W, Below w.heap.size w W → ∀ h x : Nat, Calls Try.prog 10 #[.pointer pa, .agg #[.int .u64 (h : Int), .int .u32 (x : Int)]] W (ret (.tuple #[.int .i64 0, .int .i64 1]) W)
  find : ∀ W, Below w.heap.size w W → ∀ (h : Nat) (fid : FuncId) (cap : Array Value), Calls Try.prog 27 #[.pointer pa, .int .u64 (h : Int), .func (.func fid) #[] cap] W (ret (.tuple #[.int .i64 0, .bool false]) W)
  get : ∀ W, Below w.heap.size w W → ∀ i : Int, Calls Try.prog 23 #[.pointer pa, .int .i64 i] W (ret (.tuple #[.agg #[.int .u64 0, .int .u32 0], .bool false]) W)
  drop : ∀ W, Below w.heap.size w W → ∀ i : Int, Calls Try.prog 12 #[.pointer pa, .int .i64 i] W (ret (.int .i64 1) W)
  places : ∀ W, Below w.heap.size w W → Calls Try.prog 24 #[.pointer pa] W (ret (.int .i64 0) W)
  entries : ∀ W, Below w.heap.size w W → Calls Try.prog 22 #[.pointer pa] W (ret (.int .i64 0) W)
  marks : ∀ W, Below w.heap.size w W → Calls Try.prog 25 #[.pointer pa] W (ret (.int .i64 0) W)
  copy : ∀ W, Below w.heap.size w W → Calls Try.prog 16 #[.pointer pa] W (ret (.pointer none) W)
  all : ∀ W, Below w.heap.size w W → Calls Try.prog 26 #[.pointer pa] W fun e w' => ∃ lb, e = .returned (.func (.func g) #[] lb) ∧ Below W.heap.size W w'
theorem NonT.step {g : Nat} {pa : Option Addr} {w w' : World} (h : NonT g pa w) (hb : Below w.heap.size w w') : NonT g pa w' :=
  have q := fun W (k : Below w'.heap.size w' W) => hb.trans (k.mono hb.size)
  ⟨fun W k => h.put W (q W k), fun W k => h.find W (q W k), fun W k => h.get W (q W k), fun W k => h.drop W (q W k), fun W k => h.places W (q W k), fun W k => h.entries W (q W k), fun W k => h.marks W (q W k), fun W k => h.copy W (q W k), fun W k => h.all W (q W k)⟩
section
variable {PT : World → Nat → Tb → (Nat → Prop) → Prop} {g : Nat}
theorem lfind_none {pa : Option Addr} {w : World} (HN : NonT g pa w) (h x : Nat) : Calls Try.prog 14 #[.pointer pa, .agg #[.int .u64 (h : Int), .int .u32 (x : Int)]] w (ret (.tuple #[.int .i64 0, .bool false]) w) := by
  have HB : Hid (Below w.heap.size w (w.alloc (.cells #[.int .u64 (h : Int), .int .u32 (x : Int)] 34))) := Lib.hid (below_alloc w _)
  have h1 := Lib.hid (HN.find (w.alloc (.cells #[.int .u64 (h : Int), .int .u32 (x : Int)] 34)) HB.out h 34 #[.pointer (some ⟨w.heap.size, 0, none⟩)])
  clear HN
  go_enter Try.func14, Try.ntmps14
  go_wp2_with (first
    | (go_at_call 27
       refine h1.out.mono ?_
       rintro e v1 ⟨rfl, hb⟩
       have HB1 := Lib.hid (HB.out.trans (hb.mono HB.out.size))
       clear hb))
  go_ret2
  exact ⟨rfl, HB1.out⟩
set_option maxHeartbeats 4000000 in
theorem tnone_any (HP0 : TabP PT g) (HNil : ∀ w, NonT g none w) (HZero : ∀ (w : World) (b : Nat), w.heap[b]? = some (.cells #[.slice none 0 0, .int .i64 0, .int .i64 0, .int .i64 0] 57 (0, 0)) → NonT g (some ⟨b, 0, none⟩) w)
    (HFN : ∀ {w : World} {p : Nat} {s : Tb} {F : Nat → Prop}, PT w p s F → s.Ok → ∀ h : Nat, h < 18446744073709551616 → Calls Try.prog 27 #[.pointer (some ⟨p, 0, none⟩), .int .u64 (h : Int), .nilFunc] w (ret (.tuple #[.int .i64 0, .bool false]) w))
    (h x : Nat) (hh : h < 18446744073709551616) (hx : x < 4294967296) (i : Int) (w : World) : Calls Try.prog 5 #[.agg #[.int .u64 (h : Int), .int .u32 (x : Int)], .int .i64 i] w (ret (.bool true) w) := by
  have HP := Lib.hid HP0
  have HH := Lib.hid hh
  have HXX := Lib.hid hx
  have HM0 : Hid (Mem w ((w.alloc (.cells #[.int .u64 (h : Int), .int .u32 (x : Int)] 34)).alloc (.cells #[.slice none 0 0, .int .i64 0, .int .i64 0, .int .i64 0] 57)) [(w.heap.size, .cells #[.int .u64 (h : Int), .int .u32 (x : Int)] 34 (0, 0)), (w.heap.size + 1, .cells #[.slice none 0 0, .int .i64 0, .int .i64 0, .int .i64 0] 57 (0, 0))]) := Lib.hid (by
    have h := ((Mem.nil w).alloc (.cells #[.int .u64 (h : Int), .int .u32 (x : Int)] 34)).alloc (.cells #[.slice none 0 0, .int .i64 0, .int .i64 0, .int .i64 0] 57)
    simpa using h)
  have HZ := Lib.hid (HZero _ _ (HM0.out.get 1 rfl))
  have HNL := Lib.hid HNil
  clear HP0 hh hx HZero HNil
  go_enter Try.func5, Try.ntmps5
  go_upto_region 2 with fail
  change Code.wp _ _ _ _ ((w.alloc (.cells #[.int .u64 (h : Int), .int .u32 (x : Int)] 34)).alloc (.cells #[.slice none 0 0, .int .i64 0, .int .i64 0, .int .i64 0] 57))
  have HM1 := HM0
  clear HM0
  generalize (w.alloc (.cells #[.int .u64 (h : Int), .int .u32 (x : Int)] 34)).alloc (.cells #[.slice none 0 0, .int .i64 0, .int .i64 0, .int .i64 0] 57) = u1 at *
  obtain ⟨b2, hb2⟩ : ∃ b, b = w.heap.size := ⟨_, rfl⟩
  obtain ⟨b5, hb5⟩ : ∃ b, b = w.heap.size + 1 := ⟨_, rfl⟩
  rw [← hb5, ← hb2] at HM1
  rw [← hb5] at HZ
  rw [← hb5, ← hb2]
  clear hb5 hb2
  go_upto_region 3 with fail
  have HM2 := Lib.hid (HM1.out.alloc (.cells #[.pointer none, .pointer (some ⟨b5, 0, none⟩)] 24))
  have HB12 : Hid (Below u1.heap.size u1 (u1.alloc (.cells #[.pointer none, .pointer (some ⟨b5, 0, none⟩)] 24))) := Lib.hid (below_alloc u1 _)
  obtain ⟨b8, hb8⟩ : ∃ b, b = u1.heap.size := ⟨_, rfl⟩
  rw [← hb8] at HM2 ⊢
  clear hb8 HM1
  generalize u1.alloc (.cells #[.pointer none, .pointer (some ⟨b5, 0, none⟩)] 24) = u2 at *
  go_loopw [20] (fun vi wr => ∃ k : Nat, k ≤ 2 ∧ vi = .int .i64 (k : Int) ∧ Below u2.heap.size u2 wr) (fun vi _ => 2 - (intOf vi).toNat)
  case atStart => exact ⟨0, Nat.zero_le _, rfl, Below.refl _ _⟩
  case round =>
    obtain ⟨k, hk, rfl, hb⟩ := hrel
    have HB0 := Lib.hid hb
    have HMr := Lib.hid (HM2.out.step hb)
    have e0 : wr.cell? ⟨b2, 0, none⟩ = some (.int .u64 (h : Int)) := blk_cell (HMr.out.get 0 rfl) 0
    have e1 : wr.cell? ⟨b2, 1, none⟩ = some (.int .u32 (x : Int)) := blk_cell (HMr.out.get 0 rfl) 1
    by_cases hk2 : k < 2
    · obtain ⟨pa, hpa, HNT⟩ : ∃ pa, wr.cell? ⟨b8, k, none⟩ = some (.pointer pa) ∧ NonT g pa wr := by
        have h8 := HMr.out.get 2 rfl
        rcases (show k = 0 ∨ k = 1 by omega) with rfl | rfl
        · exact ⟨none, blk_cell h8 0, HNL.out wr⟩
        · exact ⟨some ⟨b5, 0, none⟩, blk_cell h8 1, HZ.out.step (HB12.out.trans (hb.mono HB12.out.size))⟩
      have HNT := Lib.hid HNT
      have HLF := Lib.hid fun W (k : Below wr.heap.size wr W) => lfind_none (HNT.out.step k) h x
      have i0 : (0 : Int) ≤ (k : Int) := by omega
      have i1 : (k : Int) < 2 := by omega
      have i2 : ((k : Int)).toNat = k := by omega
      have zk : IntKind.i64.wrap ((k : Int) + 1) = (k : Int) + 1 := by rw [IntKind.wrap_i64]; omega
      have h99 : ∀ lb (V : World), (binOp .eql 62 (.func (.func g) #[] lb) .nilFunc).run Try.prog V = .ok (.bool false) V := fun _ _ => by kernel_rfl
      clear hb
      go_upto_region 6 with (first
        | (go_at_call 10
           refine (HNT.out.put wr (Below.refl _ _) h x).mono ?_
           rintro e v1 ⟨rfl, hb⟩
           have HB1 := Lib.hid hb
           clear hb))
      clear e0 e1 hpa
      have hm1 := HMr.out.step HB1.out
      have e0 : v1.cell? ⟨b2, 0, none⟩ = some (.int .u64 (h : Int)) := blk_cell (hm1.get 0 rfl) 0
      have e1 : v1.cell? ⟨b2, 1, none⟩ = some (.int .u32 (x : Int)) := blk_cell (hm1.get 0 rfl) 1
      clear hm1
      go_upto_region 8 with (first
        | (go_at_call 14
           refine (HLF.out v1 HB1.out).mono ?_
           rintro e v2 ⟨rfl, hb⟩
           have HB2 := Lib.hid (HB1.out.trans (hb.mono HB1.out.size))
           clear hb)
        | (go_at_call 23
           refine (HNT.out.get v2 HB2.out i).mono ?_
           rintro e v3 ⟨rfl, hb⟩
           have HB3 := Lib.hid (HB2.out.trans (hb.mono HB2.out.size))
           clear hb))
      clear e0 e1
      have HB4 := Lib.hid (HB3.out.alloc HB3.out.size (.cells #[.int .u64 0, .int .u32 0] 34))
      generalize v3.alloc (.cells #[.int .u64 0, .int .u32 0] 34) = v4 at *
      generalize v3.heap.size = b12 at *
      go_wp2_with (first
        | (go_at_call 12
           refine (HNT.out.drop v4 HB4.out i).mono ?_
           rintro e v5 ⟨rfl, hb⟩
           have HB5 := Lib.hid (HB4.out.trans (hb.mono HB4.out.size))
           clear hb)
        | (go_at_call 24
           refine (HNT.out.places v5 HB5.out).mono ?_
           rintro e v6 ⟨rfl, hb⟩
           have HB6 := Lib.hid (HB5.out.trans (hb.mono HB5.out.size))
           clear hb)
        | (go_at_call 22
           refine (HNT.out.entries v6 HB6.out).mono ?_
           rintro e v7 ⟨rfl, hb⟩
           have HB7 := Lib.hid (HB6.out.trans (hb.mono HB6.out.size))
           clear hb)
        | (go_at_call 25
           refine (HNT.out.marks v7 HB7.out).mono ?_
           rintro e v8 ⟨rfl, hb⟩
           have HB8 := Lib.hid (HB7.out.trans (hb.mono HB7.out.size))
           clear hb)
        | (go_at_call 16
           refine (HNT.out.copy v8 HB8.out).mono ?_
           rintro e v9 ⟨rfl, hb⟩
           have HB9 := Lib.hid (HB8.out.trans (hb.mono HB8.out.size))
           clear hb)
        | (go_at_call 26
           refine (HNT.out.all v9 HB9.out).mono ?_
           rintro e v10 ⟨lb, rfl, hb⟩
           have HB10 := Lib.hid (HB9.out.trans (hb.mono HB9.out.size))
           clear hb))
      go_roundw
      case rel => exact ⟨k + 1, by omega, by go_num, HB0.out.trans (HB10.out.mono HB0.out.size)⟩
      case measure => simp [intOf]; omega
    · obtain rfl : k = 2 := by omega
      have i1 : ¬ (((2 : Nat) : Int)) < 2 := by omega
      clear hb e0 e1
      have HBW := Lib.hid HMr.out.below
      have HNW := Lib.hid (HP.out.new 8 wr (by decide))
      have o0 := Lib.hid (Tb.ok_new (n := 8) (by decide) (by decide))
      go_upto_region 12 with (first
        | (go_at_call 7
           refine HNW.out.mono ?_
           rintro e v1 ⟨p, F, rfl, hf, hn, hb⟩
           have HS1 := Lib.hid (StG.start ⟨F, hf, hn⟩ hb)
           have hm1 := HMr.out.step hb
           have e0 : v1.cell? ⟨b2, 0, none⟩ = some (.int .u64 (h : Int)) := blk_cell (hm1.get 0 rfl) 0
           have e1 : v1.cell? ⟨b2, 1, none⟩ = some (.int .u32 (x : Int)) := blk_cell (hm1.get 0 rfl) 1
           have HM1 := Lib.hid hm1
           clear hf hn hb hm1))
      go_upto_region 13 with (first
        | (go_at_call 10
           refine (HS1.out.call fun F hF => HP.out.put hF o0.out h x HH.out HXX.out).mono ?_
           rintro e v2 ⟨rfl, hst, _⟩
           have HS2 := Lib.hid hst
           have hm2 := HMr.out.step hst.below
           clear hst))
      clear e0 e1
      have e0 : v2.cell? ⟨b2, 0, none⟩ = some (.int .u64 (h : Int)) := blk_cell (hm2.get 0 rfl) 0
      clear hm2
      obtain ⟨F2, hF2, q1, q2, q3⟩ := HS2.out
      have HFC := Lib.hid (HFN hF2 (Tb.ok_pt o0.out HH.out HXX.out) h HH.out)
      have HB2 := Lib.hid q3
      clear hF2 q1 q2 q3
      have HKN := Lib.hid fun W => tknown_any HP.out W
      go_wp2_with (first
        | (go_at_call 27
           refine HFC.out.mono ?_
           rintro e v3 ⟨rfl, hb⟩
           have HB3 := Lib.hid (HB2.out.trans (hb.mono HB2.out.size))
           clear hb e0)
        | (go_at_call 6
           refine (HKN.out _).mono ?_
           rintro e v4 ⟨rfl, hb⟩
           have HB4 := Lib.hid (HB3.out.trans (hb.mono HB3.out.size))
           clear hb))
      go_ret
      exact ⟨rfl, HBW.out.trans (HB4.out.mono HBW.out.size)⟩
end
end Go.Proofs.Ythbjkchgbjopfaa
