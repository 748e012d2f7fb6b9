/- Layer 5: what reading and writing tell, in one form each; the law's known. -/
import Derived.Test.YtmcapemlicjfjaaSr
import Derived.Test.YtmcapemlicjfjaaSu
import Derived.Test.YtmcapemlicjfjaaSwu
import Derived.Test.YtmcapemlicjfjaaRSr
import Derived.Test.YtmcapemlicjfjaaRSu
import Derived.Test.YtmcapemlicjfjaaRSwu
import Derived.Test.YtmcapemlicjfjaaSsm
import Derived.Laws.StructEq
namespace Go.Proofs.Ytmcapemlicjfjaa
open Go.RowKit
theorem eqU (sp dp : Int) (ns : Bool) (w : World) : (Op.equalIn 10000 34 (.agg (udpc sp dp ns)) (.agg (udpc sp dp ns))).run Try.prog w = .ok true w := by
  have hf : Try.prog.underlying 34 = some (.struct (Try.prog.fieldsOf 34)) := by kernel_rfl
  rw [run_equalIn_struct w 9999 34 _ _ hf (by kernel_rfl)]
  have e1 : ∀ (a : Int) (w : World), (Op.equalIn 9999 25 (.int .u16 a) (.int .u16 a)).run Try.prog w = .ok true w := fun a w => by
    have h := run_equalIn_int (P := Try.prog) w 9998 25 .u16 .u16 a a Try.underlying25
    simpa using h
  have e2 : ∀ (b : Bool) (w : World), (Op.equalIn 9999 4 (.bool b) (.bool b)).run Try.prog w = .ok true w := fun b w => by
    have h := run_equalIn_bool' (P := Try.prog) w 9998 4 b b Try.underlying4
    simpa using h
  have hl : (Try.prog.fieldsOf 34).toList = [{ name := "SPort", type := 25, offset := 0, embedded := false, tag := "", pkgPath := "", byteOffset := 0 }, { name := "DPort", type := 25, offset := 1, embedded := false, tag := "", pkgPath := "", byteOffset := 2 }, { name := "NoSum", type := 4, offset := 2, embedded := false, tag := "", pkgPath := "", byteOffset := 4 }] := by kernel_rfl
  rw [hl]
  have p0 : ∀ (a b : Int) (c : Bool) (w : World), (part 25 (udpc a b c) 0).run Try.prog w = .ok (.int .u16 a) w := fun a b c w => by kernel_rfl
  have p1 : ∀ (a b : Int) (c : Bool) (w : World), (part 25 (udpc a b c) 1).run Try.prog w = .ok (.int .u16 b) w := fun a b c w => by kernel_rfl
  have p2 : ∀ (a b : Int) (c : Bool) (w : World), (part 4 (udpc a b c) 2).run Try.prog w = .ok (.bool c) w := fun a b c w => by kernel_rfl
  simp only [Op.eqFields, Sem.run_bind, p0, p1, p2, e1, e2, Result.andThen_ok, Sem.run_ite, Sem.run_pure]
  rfl
/-- What ReadTCP tells, in one form; ReadUDP; what writing tells. -/
theorem readT_common {f : Nat → Int} (hf : Byt f) (S : Int) (n : Nat) : ∃ (sp dp sq ak re fl wi ur : Int) (on : Nat) (fo : Nat → Int) (pn : Nat) (fp : Nat → Int), Byt fo ∧ Byt fp ∧ pn ≤ n ∧ on ≤ 60 ∧ ∀ w e w', ReadT 5 (tcpE S f n) f n w e w' →
    ∃ O co P cp, e = .returned (.tuple #[.agg (tcpc sp dp sq ak re fl wi ur (.slice O on co)), .slice P pn cp, .int .i64 (tcpE S f n)]) ∧ Own w' w.heap.size 5 O on co fo ∧ Own w' w.heap.size 5 P pn cp fp ∧ Below w.heap.size w w' := by
  by_cases h : tcpE S f n = 0
  · obtain ⟨h1, h2, h3, _⟩ := tcp_ok h
    have h12 := hf 12
    refine ⟨w2 f 0, w2 f 2, w4 f 4, w4 f 8, f 12 % 16, f 13, w2 f 14, w2 f 18, tcpO f, fun k => f (20 + k), n - (20 + tcpO f), fun k => f (20 + tcpO f + k), fun _ => hf _, fun _ => hf _, by omega, by unfold tcpO; omega, fun w e w' hq => ?_⟩
    rcases hq with ⟨h', _⟩ | ⟨_, O, co, P, cp, he, ho, hp, hb⟩
    · exact absurd h h'
    · exact ⟨O, co, P, cp, by rw [he, h], ho, hp, hb⟩
  · refine ⟨0, 0, 0, 0, 0, 0, 0, 0, 0, fun _ => 0, 0, fun _ => 0, zer_byt, zer_byt, by omega, by omega, fun w e w' hq => ?_⟩
    rcases hq with ⟨_, he, hb⟩ | ⟨h', _⟩
    · exact ⟨none, 0, none, 0, he, Own.nil_ _ _ _ _, Own.nil_ _ _ _ _, hb⟩
    · exact absurd h' h
theorem readU_common {f : Nat → Int} (hf : Byt f) (v6 : Bool) (S : Int) (n : Nat) : ∃ (sp dp : Int) (ns : Bool) (pn : Nat) (fp : Nat → Int), Byt fp ∧ pn ≤ n ∧ ∀ w e w', ReadU 5 (udpE v6 S f n) f n w e w' →
    ∃ P cp, e = .returned (.tuple #[.agg (udpc sp dp ns), .slice P pn cp, .int .i64 (udpE v6 S f n)]) ∧ Own w' w.heap.size 5 P pn cp fp ∧ Below w.heap.size w w' := by
  by_cases h : udpE v6 S f n = 0
  · refine ⟨w2 f 0, w2 f 2, decide (w2 f 6 = 0), n - 8, fun k => f (8 + k), fun _ => hf _, by omega, fun w e w' hq => ?_⟩
    rcases hq with ⟨h', _⟩ | ⟨_, P, cp, he, hp, hb⟩
    · exact absurd h h'
    · exact ⟨P, cp, by rw [he, h], hp, hb⟩
  · refine ⟨0, 0, false, 0, fun _ => 0, zer_byt, by omega, fun w e w' hq => ?_⟩
    rcases hq with ⟨_, he, hb⟩ | ⟨h', _⟩
    · exact ⟨none, 0, he, Own.nil_ _ _ _ _, hb⟩
    · exact absurd h' h
theorem writeR_common (E : Int) (m : Nat) (g : Nat → Int) : ∃ (mu : Nat) (gu : Nat → Int), (E = 0 → mu = m ∧ gu = g) ∧ (E ≠ 0 → mu = 0) ∧ ∀ base w e w', WrR base 5 E m g w e w' →
    ∃ U cu, e = .returned (.tuple #[.slice U mu cu, .int .i64 E]) ∧ Own w' base 5 U mu cu gu ∧ Below base w w' := by
  by_cases h : E = 0
  · refine ⟨m, g, fun _ => ⟨rfl, rfl⟩, fun h' => absurd h h', fun base w e w' hq => ?_⟩
    rcases hq with ⟨h', _⟩ | ⟨_, U, cu, he, hu, hb⟩
    · exact absurd h h'
    · exact ⟨U, cu, by rw [he, h], hu, hb⟩
  · refine ⟨0, fun _ => 0, fun h' => absurd h' h, fun _ => rfl, fun base w e w' hq => ?_⟩
    rcases hq with ⟨_, U, cu, he, hu, hb⟩ | ⟨h', _⟩
    · exact ⟨U, cu, he, hu, hb⟩
    · exact absurd h' h
def kb (k : Nat) : Int := if k = 1 then 1 else if k = 3 then 2 else if k = 5 then 8 else 0
def kt (k : Nat) : Int := if k = 12 then 64 else 0
theorem kb_byt : Byt kb := fun k => by
  unfold kb
  repeat' split
  all_goals omega
theorem kt_byt : Byt kt := fun k => by
  unfold kt
  split <;> omega
set_option maxRecDepth 100000 in
set_option maxHeartbeats 4000000 in
theorem known_any (w : World) : Calls Try.prog 6 #[] w fun e w' => e = .returned (.bool true) ∧ Below w.heap.size w w' := by
  obtain ⟨i0, hi0, hz0, hz1, hz2⟩ := info_parts Try.info5
  have HI0 := Lib.hid hi0
  have HZ0 := Lib.hid hz0
  have HZ1 := Lib.hid hz1
  have HZ2 := Lib.hid hz2
  clear hi0 hz0 hz1 hz2
  have HU1 := Lib.hid fun W A c (h : 8 ≤ c) (h' : c ≤ 9223372036854775807) hr => readU_any false (fun _ => 0) (fun _ => 0) zer_byt zer_byt A 8 c kb kb_byt (by omega) h h' W hr
  have HU2 := Lib.hid fun W A c (h : 8 ≤ c) (h' : c ≤ 9223372036854775807) hr => readU_any true (fun _ => 0) (fun _ => 0) zer_byt zer_byt A 8 c kb kb_byt (by omega) h h' W hr
  have HT1 := Lib.hid fun W A c (h : 20 ≤ c) (h' : c ≤ 9223372036854775807) hr => readT_any false (fun _ => 0) (fun _ => 0) zer_byt zer_byt A 20 c kt kt_byt (by omega) h h' W hr
  generalize psq false (fun _ => 0) (fun _ => 0) 17 8 = S1 at *
  generalize psq true (fun _ => 0) (fun _ => 0) 17 8 = S2 at *
  generalize psq false (fun _ => 0) (fun _ => 0) 6 20 = S3 at *
  have k1 : udpE false S1 kb 8 = 0 := udpE_3 (by omega) (by decide) (by decide)
  have k2 : udpE true S2 kb 8 = 6 := udpE_2 (by omega) (by decide) (by decide)
  have k3 : tcpE S3 kt 20 = 5 := tcpE_1 (by omega) (by decide)
  have k4 : udpc (w2 kb 0) (w2 kb 2) (decide (w2 kb 6 = 0)) = udpc 1 2 true := by
    rw [show w2 kb 0 = 1 by decide, show w2 kb 2 = 2 by decide, show decide (w2 kb 6 = 0) = true by decide]
  rw [k1] at HU1
  rw [k2] at HU2
  rw [k3] at HT1
  clear k1 k2 k3
  have HK4 := Lib.hid k4
  clear k4
  have HA0 : Hid ((w.alloc (.cells (arr16 fun _ => 0) 22)).heap[w.heap.size]? = some (.cells (arr16 fun _ => 0) 22 (0, 0))) := heap_alloc_new w _
  have HB0 : Hid (Below w.heap.size w (w.alloc (.cells (arr16 fun _ => 0) 22))) := below_alloc w _
  go_enter Try.func6, Try.ntmps6
  go_upto_region 2 with fail
  change Code.wp _ _ _ _ (w.alloc (.cells (arr16 fun _ => 0) 22))
  generalize w.alloc (.cells (arr16 fun _ => 0) 22) = u1 at *
  have HR2 : Hid (Rd (u1.alloc (.cells #[.int .u8 0, .int .u8 1, .int .u8 0, .int .u8 2, .int .u8 0, .int .u8 8, .int .u8 0, .int .u8 0] 5)) (u1.alloc (.cells #[.int .u8 0, .int .u8 1, .int .u8 0, .int .u8 2, .int .u8 0, .int .u8 8, .int .u8 0, .int .u8 0] 5)).heap.size (some ⟨u1.heap.size, 0, none⟩) 8 kb) := Lib.hid (blk_rd (heap_alloc_new u1 _) (by simp) fun k hk => by
    rw [Nat.zero_add]
    match k, hk with
    | 0, _ => rfl
    | 1, _ => rfl
    | 2, _ => rfl
    | 3, _ => rfl
    | 4, _ => rfl
    | 5, _ => rfl
    | 6, _ => rfl
    | 7, _ => rfl)
  have B12 : Hid (Below u1.heap.size u1 (u1.alloc (.cells #[.int .u8 0, .int .u8 1, .int .u8 0, .int .u8 2, .int .u8 0, .int .u8 8, .int .u8 0, .int .u8 0] 5))) := below_alloc u1 _
  go_upto_region 3 with fail
  generalize u1.alloc (.cells #[.int .u8 0, .int .u8 1, .int .u8 0, .int .u8 2, .int .u8 0, .int .u8 8, .int .u8 0, .int .u8 0] 5) = u2 at *
  have HA2 : Hid (u2.heap[w.heap.size]? = some (.cells (arr16 fun _ => 0) 22 (0, 0))) := Lib.hid ((B12.out.block _ (lt_heap HA0.out)).trans HA0.out)
  have HB2 : Hid (Below w.heap.size w u2) := HB0.out.trans (B12.out.mono HB0.out.size)
  clear B12 HA0 HB0
  go_wp2_with (first
    | (refine wpList_load_roww rfl 22 (.tmp 1) rfl w.heap.size rfl 22 (arr16 fun _ => 0) (0, 0) _ HA2.out Try.underlying22 rfl (by kernel_rfl) ?_))
  go_at_call 10
  refine (HU1.out _ _ _ (by omega) (by omega) HR2.out).mono ?_
  rintro e u3 hq
  rcases hq with ⟨h, _⟩ | ⟨_, P3, c3, rfl, _, hb3⟩
  · exact absurd rfl h
  rw [HK4.out]
  have HA3 := Lib.hid ((hb3.block _ (lt_heap HA2.out)).trans HA2.out)
  have HB3 : Hid (Below w.heap.size w u3) := HB2.out.trans (hb3.mono HB2.out.size)
  have HR3 := Lib.hid ((HR2.out.keep hb3).more hb3.size)
  clear hb3 HA2 HB2 HR2 HU1 HK4
  obtain ⟨CU, hCU⟩ : ∃ CU, CU = udpc 1 2 true := ⟨_, rfl⟩
  have HCU := Lib.hid hCU
  have HSZ : Hid (CU.size = 3) := Lib.hid (by rw [hCU]; rfl)
  have H1 : Hid (CU.all (·.oneCell') = true) := Lib.hid (by rw [hCU]; exact udp_one ..)
  rw [← hCU]
  have hi3 := Lib.hid (show (Try.prog.info? 34).map (·.size) = some 3 by kernel_rfl)
  have HN : Hid ((u3.alloc (.cells udpz 34)).heap[u3.heap.size]? = some (.cells udpz 34 (0, 0))) := heap_alloc_new u3 _
  clear hCU
  go_upto_region 4 with (first
    | (refine wpList_store_row rfl 34 (.tmp 3) (.tmp 19) rfl u3.heap.size CU rfl rfl 34 udpz HN.out (hi3.out.trans (by rw [HSZ.out])) (by rw [HSZ.out]; rfl) H1.out ?_))
  change Code.wp _ _ _ _ ((u3.alloc (.cells udpz 34)).setRow u3.heap.size CU)
  have B34 : Hid (Below u3.heap.size u3 ((u3.alloc (.cells udpz 34)).setRow u3.heap.size CU)) := below_setRow (below_alloc u3 _) (Nat.le_refl _) CU
  have HV4 : Hid (((u3.alloc (.cells udpz 34)).setRow u3.heap.size CU).heap[u3.heap.size]? = some (.cells CU 34 (0, 0))) := setRow_heap _ _ _ CU _ _ HN.out
  clear HN
  generalize (u3.alloc (.cells udpz 34)).setRow u3.heap.size CU = u4 at *
  have HA4 := Lib.hid ((B34.out.block _ (lt_heap HA3.out)).trans HA3.out)
  have HB4 : Hid (Below w.heap.size w u4) := HB3.out.trans (B34.out.mono HB3.out.size)
  have HR4 := Lib.hid ((HR3.out.keep B34.out).more B34.out.size)
  clear B34 HA3 HB3 HR3
  go_wp2_with (first
    | (refine wpList_load_roww rfl 22 (.tmp 1) rfl w.heap.size rfl 22 (arr16 fun _ => 0) (0, 0) _ HA4.out Try.underlying22 rfl (by kernel_rfl) ?_))
  go_at_call 10
  refine (HU2.out _ _ _ (by omega) (by omega) HR4.out).mono ?_
  rintro e u5 hq
  rcases hq with ⟨_, rfl, hb5⟩ | ⟨h, _⟩
  rotate_left
  · exact absurd h (by decide)
  have HA5 := Lib.hid ((hb5.block _ (lt_heap HA4.out)).trans HA4.out)
  have HV5 := Lib.hid ((hb5.block _ (lt_heap HV4.out)).trans HV4.out)
  have HB5 : Hid (Below w.heap.size w u5) := HB4.out.trans (hb5.mono HB4.out.size)
  clear hb5 HA4 HB4 HR4 HU2 HV4
  have HN : Hid ((u5.alloc (.cells udpz 34)).heap[u5.heap.size]? = some (.cells udpz 34 (0, 0))) := heap_alloc_new u5 _
  go_upto_region 5 with (first
    | (refine wpList_store_row rfl 34 (.tmp 6) (.tmp 27) rfl u5.heap.size udpz rfl rfl 34 udpz HN.out (by kernel_rfl) rfl udpz_one ?_))
  change Code.wp _ _ _ _ ((u5.alloc (.cells udpz 34)).setRow u5.heap.size udpz)
  have B56 : Hid (Below u5.heap.size u5 ((u5.alloc (.cells udpz 34)).setRow u5.heap.size udpz)) := below_setRow (below_alloc u5 _) (Nat.le_refl _) _
  clear HN
  generalize (u5.alloc (.cells udpz 34)).setRow u5.heap.size udpz = u6 at *
  have HA6 := Lib.hid ((B56.out.block _ (lt_heap HA5.out)).trans HA5.out)
  have HV6 := Lib.hid ((B56.out.block _ (lt_heap HV5.out)).trans HV5.out)
  have HB6 : Hid (Below w.heap.size w u6) := HB5.out.trans (B56.out.mono HB5.out.size)
  clear B56 HA5 HB5 HV5
  have hmk : ∀ W : World, (Instr.makeSlice 23 (.int .i64 20) (.int .i64 20)).run Try.prog W = .ok (.slice (some ⟨W.heap.size, 0, none⟩) 20 20) (W.alloc (.cells (madeCells (Value.int .u8 0).cells 20) 5)) := fun W => run_make_bytes (P := Try.prog) W 23 5 i0 Try.underlying23 HI0.out HZ0.out HZ1.out HZ2.out 20 (by omega)
  have HO7 : Hid (Own (u6.alloc (.cells (madeCells (Value.int .u8 0).cells 20) 5)) u6.heap.size 5 (some ⟨u6.heap.size, 0, none⟩) 20 20 (fun _ => 0)) := made_own u6 _ 20 (by omega) _ rfl
  have B67 : Hid (Below u6.heap.size u6 (u6.alloc (.cells (madeCells (Value.int .u8 0).cells 20) 5))) := below_alloc u6 _
  go_upto_region 6 with fail
  change Code.wp _ _ _ _ (u6.alloc (.cells (madeCells (Value.int .u8 0).cells 20) 5))
  clear hmk
  obtain ⟨g, hg⟩ : ∃ g, g = u6.heap.size := ⟨_, rfl⟩
  rw [← hg]
  generalize u6.alloc (.cells (madeCells (Value.int .u8 0).cells 20) 5) = u7 at *
  rw [← hg] at HO7
  have HG := Lib.hid hg
  clear hg
  obtain ⟨g', hg', _, _, hcell, hfro⟩ := HO7.out.lies (by omega)
  injection hg' with hg'
  injection hg' with hg'
  subst hg'
  have c12 := hcell 12 (by omega)
  have f12 := hfro 12
  clear hcell hfro
  go_upto_region 7 with fail
  have HO8 : Hid (Own (u7.setCell ⟨g, 12, none⟩ (.int .u8 64)) g 5 (some ⟨g, 0, none⟩) 20 20 kt) := Lib.hid ((HO7.out.set_ 12 64).same fun k hk => by unfold upd kt; rfl)
  have B78 : Hid (Below u6.heap.size u6 (u7.setCell ⟨g, 12, none⟩ (.int .u8 64))) := Lib.hid (B67.out.setCell (show u6.heap.size ≤ g by rw [HG.out]; omega) _)
  clear c12 f12 HO7 B67 HG
  generalize u7.setCell ⟨g, 12, none⟩ (.int .u8 64) = u8 at *
  have HA8 := Lib.hid ((B78.out.block _ (lt_heap HA6.out)).trans HA6.out)
  have HV8 := Lib.hid ((B78.out.block _ (lt_heap HV6.out)).trans HV6.out)
  have HB8 : Hid (Below w.heap.size w u8) := HB6.out.trans (B78.out.mono HB6.out.size)
  clear B78 HA6 HB6 HV6
  go_wp2_with (first
    | (refine wpList_load_roww rfl 22 (.tmp 1) rfl w.heap.size rfl 22 (arr16 fun _ => 0) (0, 0) _ HA8.out Try.underlying22 rfl (by kernel_rfl) ?_))
  go_at_call 7
  refine (HT1.out _ _ _ (by omega) (by omega) HO8.out.rd).mono ?_
  rintro e u9 hq
  rcases hq with ⟨_, rfl, hb9⟩ | ⟨h, _⟩
  rotate_left
  · exact absurd h (by decide)
  have HV9 := Lib.hid ((hb9.block _ (lt_heap HV8.out)).trans HV8.out)
  have HB9 : Hid (Below w.heap.size w u9) := HB8.out.trans (hb9.mono HB8.out.size)
  clear hb9 HA8 HB8 HV8 HT1 HO8
  have HN : Hid ((u9.alloc (.cells tcpz 28)).heap[u9.heap.size]? = some (.cells tcpz 28 (0, 0))) := heap_alloc_new u9 _
  go_upto_region 8 with (first
    | (refine wpList_store_row rfl 28 (.tmp 10) (.tmp 38) rfl u9.heap.size tcpz rfl rfl 28 tcpz HN.out (by kernel_rfl) rfl tcpz_one ?_))
  change Code.wp _ _ _ _ ((u9.alloc (.cells tcpz 28)).setRow u9.heap.size tcpz)
  have B9A : Hid (Below u9.heap.size u9 ((u9.alloc (.cells tcpz 28)).setRow u9.heap.size tcpz)) := below_setRow (below_alloc u9 _) (Nat.le_refl _) _
  clear HN
  generalize (u9.alloc (.cells tcpz 28)).setRow u9.heap.size tcpz = u10 at *
  have HV10 := Lib.hid ((B9A.out.block _ (lt_heap HV9.out)).trans HV9.out)
  have HB10 : Hid (Below w.heap.size w u10) := HB9.out.trans (B9A.out.mono HB9.out.size)
  clear B9A HB9 HV9
  have heq : ∀ W, (Op.equalIn 10000 34 (.agg CU) (.agg #[.int .u16 1, .int .u16 2, .bool true])).run Try.prog W = .ok true W := fun W => by
    rw [HCU.out]
    exact eqU 1 2 true W
  go_wp2_with (first
    | (refine wpList_load_roww rfl 34 (.tmp 3) rfl u3.heap.size rfl 34 CU (0, 0) _ HV10.out Try.underlying34 rfl (hi3.out.trans (by rw [HSZ.out])) ?_))
  go_ret
  exact ⟨rfl, HB10.out⟩
end Go.Proofs.Ytmcapemlicjfjaa
