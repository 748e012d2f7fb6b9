import Derived.Test.YtimcdnbfdkpffaaGreatGn1
namespace Go.Proofs.YtimcdnbfdkpffaaGreat
set_option maxRecDepth 100000
open Go.RowKit Go.Shelf
attribute [local go_sem] Oper.semAt_some
theorem ftick_un {pa : Option Addr} {w : World} (h : UnF pa w) : Calls Tryz.prog 14 #[.pointer pa] w (ret (.tuple #[.slice none 0 0, .int .i64 1]) w) := by
  have HC := Lib.hid (fmade_un h)
  clear h
  go_enter Tryz.func14, Tryz.ntmps14
  go_wp2_with (first
    | (go_at_call 39
       refine HC.out.mono ?_
       rintro e u1 ⟨rfl, hb⟩
       have HB1 := Lib.hid (hb)
       clear hb))
  go_ret2
  exact ⟨rfl, HB1.out⟩
theorem fpin_un {pa : Option Addr} {w : World} (h : UnF pa w) (T Q : Array Value) (st : Nat) : Calls Tryz.prog 16 #[.pointer pa, .agg T, .agg Q, .int .u8 (st : Int)] w (ret (.int .i64 1) w) := by
  have HB0 : Hid (Below w.heap.size w ((w.alloc (.cells T 38)).alloc (.cells Q 41))) := Lib.hid ((below_alloc w _).alloc (below_alloc w _).size _)
  have HC := Lib.hid (fmade_un (h.step HB0.out))
  clear h
  go_enter Tryz.func16, Tryz.ntmps16
  go_upto_region 1 with fail
  change Code.wp _ _ _ _ ((w.alloc (.cells T 38)).alloc (.cells Q 41))
  generalize (w.alloc (.cells T 38)).alloc (.cells Q 41) = u0 at *
  go_wp2_with (first
    | (go_at_call 39
       refine HC.out.mono ?_
       rintro e u1 ⟨rfl, hb⟩
       have HB1 := Lib.hid (HB0.out.trans (hb.mono HB0.out.size))
       clear hb))
  go_ret
  exact ⟨rfl, HB1.out⟩
theorem ftouch_un {pa : Option Addr} {w : World} (h : UnF pa w) (T : Array Value) (st : Nat) : Calls Tryz.prog 21 #[.pointer pa, .agg T, .int .u8 (st : Int)] w (ret (.int .i64 1) w) := by
  have HB0 : Hid (Below w.heap.size w (w.alloc (.cells T 38))) := Lib.hid (below_alloc w _)
  have HC := Lib.hid (fmade_un (h.step HB0.out))
  clear h
  go_enter Tryz.func21, Tryz.ntmps21
  go_upto_region 1 with fail
  change Code.wp _ _ _ _ (w.alloc (.cells T 38))
  generalize w.alloc (.cells T 38) = u0 at *
  go_wp2_with (first
    | (go_at_call 39
       refine HC.out.mono ?_
       rintro e u1 ⟨rfl, hb⟩
       have HB1 := Lib.hid (HB0.out.trans (hb.mono HB0.out.size))
       clear hb))
  go_ret
  exact ⟨rfl, HB1.out⟩
theorem fend_un {pa : Option Addr} {w : World} (h : UnF pa w) (T : Array Value) : Calls Tryz.prog 13 #[.pointer pa, .agg T] w (ret (.int .i64 1) w) := by
  have HB0 : Hid (Below w.heap.size w (w.alloc (.cells T 38))) := Lib.hid (below_alloc w _)
  have HC := Lib.hid (fmade_un (h.step HB0.out))
  clear h
  go_enter Tryz.func13, Tryz.ntmps13
  go_upto_region 1 with fail
  change Code.wp _ _ _ _ (w.alloc (.cells T 38))
  generalize w.alloc (.cells T 38) = u0 at *
  go_wp2_with (first
    | (go_at_call 39
       refine HC.out.mono ?_
       rintro e u1 ⟨rfl, hb⟩
       have HB1 := Lib.hid (HB0.out.trans (hb.mono HB0.out.size))
       clear hb))
  go_ret
  exact ⟨rfl, HB1.out⟩
theorem fset_un {pa : Option Addr} {w : World} (h : UnF pa w) (a b x d : Nat) : Calls Tryz.prog 22 #[.pointer pa, .agg #[.int .u32 (a : Int), .int .u32 (b : Int), .int .u32 (x : Int), .int .u32 (d : Int)]] w (ret (.int .i64 1) w) := by
  have HB0 : Hid (Below w.heap.size w (w.alloc (.cells #[.int .u32 (a : Int), .int .u32 (b : Int), .int .u32 (x : Int), .int .u32 (d : Int)] 24))) := Lib.hid (below_alloc w _)
  have HC := Lib.hid (fmade_un (h.step HB0.out))
  clear h
  go_enter Tryz.func22, Tryz.ntmps22
  go_upto_region 1 with fail
  change Code.wp _ _ _ _ (w.alloc (.cells #[.int .u32 (a : Int), .int .u32 (b : Int), .int .u32 (x : Int), .int .u32 (d : Int)] 24))
  generalize w.alloc (.cells #[.int .u32 (a : Int), .int .u32 (b : Int), .int .u32 (x : Int), .int .u32 (d : Int)] 24) = u0 at *
  go_wp2_with (first
    | (go_at_call 39
       refine HC.out.mono ?_
       rintro e u1 ⟨rfl, hb⟩
       have HB1 := Lib.hid (HB0.out.trans (hb.mono HB0.out.size))
       clear hb))
  go_ret
  exact ⟨rfl, HB1.out⟩
theorem flen_un {pa : Option Addr} {w : World} (h : UnF pa w) : Calls Tryz.prog 24 #[.pointer pa] w (ret (.int .i64 0) w) := by
  have HC := Lib.hid (fmade_un h)
  clear h
  go_enter Tryz.func24, Tryz.ntmps24
  go_wp2_with (first
    | (go_at_call 39
       refine HC.out.mono ?_
       rintro e u1 ⟨rfl, hb⟩
       have HB1 := Lib.hid (hb)
       clear hb))
  go_ret
  exact ⟨rfl, HB1.out⟩
theorem fleft_un {pa : Option Addr} {w : World} (h : UnF pa w) : Calls Tryz.prog 19 #[.pointer pa] w (ret (.int .i64 0) w) := by
  have HC := Lib.hid (fmade_un h)
  clear h
  go_enter Tryz.func19, Tryz.ntmps19
  go_wp2_with (first
    | (go_at_call 39
       refine HC.out.mono ?_
       rintro e u1 ⟨rfl, hb⟩
       have HB1 := Lib.hid (hb)
       clear hb))
  go_ret
  exact ⟨rfl, HB1.out⟩
theorem fnow_un {pa : Option Addr} {w : World} (h : UnF pa w) : Calls Tryz.prog 25 #[.pointer pa] w (ret (.int .u64 0) w) := by
  have HC := Lib.hid (fmade_un h)
  clear h
  go_enter Tryz.func25, Tryz.ntmps25
  go_wp2_with (first
    | (go_at_call 39
       refine HC.out.mono ?_
       rintro e u1 ⟨rfl, hb⟩
       have HB1 := Lib.hid (hb)
       clear hb))
  go_ret
  exact ⟨rfl, HB1.out⟩
theorem fcopy_un {pa : Option Addr} {w : World} (h : UnF pa w) : Calls Tryz.prog 12 #[.pointer pa] w (ret (.pointer none) w) := by
  have HC := Lib.hid (fmade_un h)
  clear h
  go_enter Tryz.func12, Tryz.ntmps12
  go_wp2_with (first
    | (go_at_call 39
       refine HC.out.mono ?_
       rintro e u1 ⟨rfl, hb⟩
       have HB1 := Lib.hid (hb)
       clear hb))
  go_ret
  exact ⟨rfl, HB1.out⟩
theorem fget_un {pa : Option Addr} {w : World} (h : UnF pa w) (T : Array Value) : Calls Tryz.prog 20 #[.pointer pa, .agg T] w (ret (.tuple #[.agg flz, .bool false]) w) := by
  have HA := Lib.hid (alloc_2 w (.cells T 38) (.cells flz 59))
  have HC := Lib.hid (fmade_un (h.step HA.out.1))
  obtain ⟨Z, hZ⟩ : ∃ Z, Z = flz := ⟨_, rfl⟩
  have HI41 : Hid ((Tryz.prog.info? 59).map (·.size) = some 41) := Lib.hid (by kernel_rfl)
  have HZO : Hid (Z.all (·.oneCell') = true) := Lib.hid (by rw [hZ]; simp [flz, tupc, Value.oneCell'])
  have HZS : Hid (Z.size = 41) := Lib.hid (by rw [hZ]; rfl)
  have hbz : ∀ V : World, (Instr.build 59 #[]).run Tryz.prog V = .ok (.agg Z) V := fun V => by
    rw [hZ]
    kernel_rfl
  have HZE := Lib.hid hZ
  rw [← HZE.out]
  clear h hZ
  go_enter Tryz.func20, Tryz.ntmps20
  go_upto_region 1 with fail
  change Code.wp _ _ _ _ ((w.alloc (.cells T 38)).alloc (.cells flz 59))
  rw [← HZE.out] at HA HC ⊢
  clear HZE
  generalize (w.alloc (.cells T 38)).alloc (.cells Z 59) = u0 at *
  have HB4 : Hid (w.heap.size ≤ w.heap.size + 1) := Lib.hid (Nat.le_succ _)
  generalize w.heap.size + 1 = b4 at *
  go_wp2_with (first
    | (go_at_call 39
       refine HC.out.mono ?_
       rintro e u1 ⟨rfl, hb⟩
       have HB1 := Lib.hid (HA.out.1.trans (hb.mono HA.out.1.size))
       have HZ1 := Lib.hid ((hb.block b4 (lt_heap HA.out.2.2)).trans HA.out.2.2)
       clear hb)
    | (refine wpList_bw (.agg Z) 59 [] [] hbz (by with_reducible_and_instances rfl) rfl rfl ?_)
    | (refine wpList_store_row rfl 59 (.tmp 4) (.tmp 14) rfl b4 Z rfl rfl 59 Z HZ1.out (HI41.out.trans (by rw [HZS.out])) rfl HZO.out ?_))
  refine bodyPost_ret (v := .tuple #[.agg Z, .bool false]) (results_rowa Tryz.results20 _ _ b4 59 Z (0, 0) _ rfl (setRow_heap _ b4 _ Z _ _ HZ1.out) Tryz.underlying59 rfl (HI41.out.trans (by rw [HZS.out]))) rfl ?_
  exact ⟨rfl, below_setRow HB1.out HB4.out _⟩
theorem fmove_un {pa : Option Addr} {w : World} (h : UnF pa w) (n : Int) : Calls Tryz.prog 18 #[.pointer pa, .int .i64 n] w (ret (.int .i64 0) w) := by
  have HL := Lib.hid fun V (hb : Below w.heap.size w V) => fleft_un (h.step hb)
  clear h
  go_enter Tryz.func18, Tryz.ntmps18
  go_wp2_with fail
  go_loopw [5] (fun vd wr => vd = .int .i64 0 ∧ Below w.heap.size w wr) (fun _ _ => 0)
  case atStart => exact ⟨rfl, Below.refl _ _⟩
  case round =>
    obtain ⟨rfl, hb⟩ := hrel
    have HBR := Lib.hid hb
    clear hb
    by_cases c1 : 0 < n
    · go_wp2_with (first
        | (go_at_call 19
           refine (HL.out _ HBR.out).mono ?_
           rintro e u1 ⟨rfl, hb⟩
           have HB1 := Lib.hid (HBR.out.trans (hb.mono HBR.out.size))
           clear hb))
      go_ret
      exact ⟨rfl, HB1.out⟩
    · go_wp2_with fail
      go_ret
      exact ⟨rfl, HBR.out⟩
theorem fall_fn (w : World) (pa : Option Addr) : Calls Tryz.prog 26 #[.pointer pa] w fun e w' => e = .returned (.func (.func gF) #[] #[.pointer (some ⟨w.heap.size, 0, none⟩)]) ∧ w' = w.alloc (.cells #[.pointer pa] 28) := by
  go_enter Tryz.func26, Tryz.ntmps26
  go_wp2_with fail
  go_ret
  exact ⟨rfl, rfl⟩
theorem fall_un {w0 : World} {R : Nat → Prop} {b0 : Nat} {pa : Option Addr} (hR0 : ¬ R b0) (hc : w0.cell? ⟨b0, 0, none⟩ = some (.pointer pa)) (hu : UnF pa w0) :
    SeqQ Fence.wide 12 Tryz.prog gF #[.pointer (some ⟨b0, 0, none⟩)] fEnc (KeptC R) [] w0 := fun l J Jx W hW hJ hJx hY hJ0 => by
  have x0 : W.cell? ⟨b0, 0, none⟩ = some (.pointer pa) := (KeptC.of_below hW R).cell hc hR0
  have HMd := Lib.hid (fmade_un (hu.step hW))
  have HJ := Lib.hid hJ
  have HJ0 := Lib.hid hJ0
  clear hY hJ hW hJ0 hJx hc hR0 hu
  show CallsIn _ _ _ 62 _ _ _
  refine callsIn_of_wp Tryz.func62 rfl trivial ?_ rfl
  simp only [Tryz.ntmps62, List.size_toArray, List.length_cons, List.length_nil, Nat.reduceAdd, Nat.reduceSub, Array.replicate_succ, Array.replicate_zero, List.push_toArray, List.append_toArray, List.nil_append, List.cons_append]
  gi_wp2_with (
    refine ⟨trivial, ?_⟩
    gi_at_call 39
    refine (callsIn_wide.2 HMd.out).mono ?_
    rintro e W1 ⟨rfl, hb⟩
    have HJ1 := Lib.hid (HJ.out _ _ _ none HJ0.out (grown_below hb) (fun r e => nomatch e))
    clear hb x0)
  exact ⟨rfl, _, results_none rfl _ _ _, ⟨_, rfl⟩, .inl HJ1.out⟩
theorem unF_non {pa : Option Addr} {w : World} (h : UnF pa w) : NonF gF pa w where
  get := fun W hb t => fget_un (h.step hb) t.c
  tick := fun W hb => ftick_un (h.step hb)
  pin := fun W hb t q st => fpin_un (h.step hb) t.c q.c st
  touch := fun W hb t st => ftouch_un (h.step hb) t.c st
  end_ := fun W hb t => fend_un (h.step hb) t.c
  set_ := fun W hb a b c d => fset_un (h.step hb) a b c d
  move := fun W hb n => fmove_un (h.step hb) n
  len := fun W hb => flen_un (h.step hb)
  left := fun W hb => fleft_un (h.step hb)
  now := fun W hb => fnow_un (h.step hb)
  copy := fun W hb => fcopy_un (h.step hb)
  all := fun W hb => by
    refine (fall_fn W pa).mono ?_
    rintro r w' ⟨rfl, rfl⟩
    have hb1 := below_alloc W (.cells #[.pointer pa] 28)
    have hz : (W.alloc (.cells #[.pointer pa] 28)).heap.size = W.heap.size + 1 := by simp
    refine ⟨_, fun k => k = W.heap.size, rfl, hb1, fun k hk => ?_, fun R hR hRo => fall_un (hR _ rfl) (blk_cell (heap_alloc_new W _) 0) ((h.step hb).step hb1)⟩
    have hk : k = W.heap.size := hk
    exact ⟨by omega, .inr (by omega)⟩
theorem fln_nil (w : World) : NonF gF none w := unF_non (.inl rfl)
theorem fln_zero (w : World) (b : Nat) (h : w.heap[b]? = some (.cells #[.pointer none, .pointer none, .int .u32 0, .int .u32 0, .int .u32 0, .int .u32 0, .slice none 0 0] 68 (0, 0))) : NonF gF (some ⟨b, 0, none⟩) w := unF_non (.inr ⟨b, rfl, blk_cell h 0⟩)
end Go.Proofs.YtimcdnbfdkpffaaGreat
