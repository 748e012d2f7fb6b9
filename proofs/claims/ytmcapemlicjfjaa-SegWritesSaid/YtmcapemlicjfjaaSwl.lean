/- SegWrites, walked. -/
import Derived.Test.YtmcapemlicjfjaaSq
namespace Go.Proofs.Ytmcapemlicjfjaa
open Go.RowKit
/-- Four boxes. -/
structure BoxW (w W : World) (s d : Nat → Int) (CT CU : Array Value) : Prop where
  box : Box3 w W s d CT 28
  b3 : W.heap[w.heap.size + 1 + 1 + 1]? = some (.cells CU 34 (0, 0))
theorem BoxW.step {w W W' : World} {s d : Nat → Int} {CT CU : Array Value} (h : BoxW w W s d CT CU) (hb : Below W.heap.size W W') : BoxW w W' s d CT CU :=
  ⟨h.box.step hb, (hb.block _ (lt_heap h.b3)).trans h.b3⟩
theorem BoxW.start (w : World) (s d : Nat → Int) (CT CU : Array Value) : BoxW w ((((w.alloc (.cells (arr16 s) 22)).alloc (.cells (arr16 d) 22)).alloc (.cells CT 28)).alloc (.cells CU 34)) s d CT CU := by
  have e2 : (((w.alloc (Obj.cells (arr16 s) 22)).alloc (Obj.cells (arr16 d) 22)).alloc (.cells CT 28)).heap.size = w.heap.size + 1 + 1 + 1 := by simp
  refine ⟨(Box3.start w s d CT 28).step (below_alloc _ _), ?_⟩
  rw [← e2]
  exact heap_alloc_new _ _
theorem readT_back (v6 : Bool) (s d : Nat → Int) (hs : Byt s) (hd : Byt d) (sp dp sq ak re fl wi ur : Int) (on : Nat) (fo : Nat → Int) (n : Nat) (f : Nat → Int) (h1 : 0 ≤ sp ∧ sp ≤ 65535) (h2 : 0 ≤ dp ∧ dp ≤ 65535) (h3 : 0 ≤ sq ∧ sq ≤ 4294967295) (h4 : 0 ≤ ak ∧ ak ≤ 4294967295) (h5 : 0 ≤ re ∧ re ≤ 255) (h6 : 0 ≤ fl ∧ fl ≤ 255) (h7 : 0 ≤ wi ∧ wi ≤ 65535) (h8 : 0 ≤ ur ∧ ur ≤ 65535) (hfo : Byt fo) (hf : Byt f) (hx : tcpX on n re = 0) (U : Option Addr) (cu base : Nat) (W : World) (hu : Own W base 5 U (20 + on + n) cu (tcpB sp dp sq ak on re fl wi (rgt (psq v6 s d 6 (20 + on + n)) (tcpB sp dp sq ak on re fl wi 0 ur fo f) (20 + on + n)) ur fo f)) :
    Calls Try.prog 7 #[.bool v6, .agg (arr16 s), .agg (arr16 d), .slice U (20 + on + n) cu] W fun e w' => ∃ O co P cp, e = .returned (.tuple #[.agg (tcpc sp dp sq ak re fl wi ur (.slice O on co)), .slice P n cp, .int .i64 0]) ∧ Own w' W.heap.size 5 O on co fo ∧ Own w' W.heap.size 5 P n cp f ∧ Below W.heap.size W w' := by
  obtain ⟨hby, hE, hfl, hO, hk⟩ := tcp_back h1 h2 h3 h4 h5.1 h6 h7 h8 hfo hf (psq_bd v6 hs hd (pr := 6) (by omega) (by omega) (20 + on + n)) hx _ rfl
  obtain ⟨x1, _, _, x4⟩ := tcpX_ok hx
  have h := readT_any v6 s d hs hd U (20 + on + n) cu _ hby (by omega) hu.cap hu.cap_le W hu.rd
  rw [hE] at h
  refine h.mono fun e w' hq => ?_
  rcases hq with ⟨h', _⟩ | ⟨_, O, co, P, cp, he, ho, hp, hb⟩
  · exact absurd rfl h'
  · rw [hfl, hO, show (20 + on + n) - (20 + on) = n by omega] at he
    rw [hO] at ho
    rw [hO, show (20 + on + n) - (20 + on) = n by omega] at hp
    refine ⟨O, co, P, cp, he, ho.same fun k hk' => ?_, hp.same fun k hk' => ?_, hb⟩
    · rw [hk k, cat_lt hk']
    · have e := hk (on + k)
      rw [← Nat.add_assoc] at e
      rw [e, cat_ge (by omega)]
      congr 1
      omega
theorem readU_back (v6 : Bool) (s d : Nat → Int) (hs : Byt s) (hd : Byt d) (xp yp : Int) (ns : Bool) (n : Nat) (f : Nat → Int) (h1 : 0 ≤ xp ∧ xp ≤ 65535) (h2 : 0 ≤ yp ∧ yp ≤ 65535) (hf : Byt f) (hx : udpX v6 ns n = 0) (U : Option Addr) (cu base : Nat) (W : World) (hu : Own W base 5 U (8 + n) cu (udpB xp yp (8 + (n : Int)) (udpS ns (psq v6 s d 17 (8 + n)) (udpB xp yp (8 + (n : Int)) 0 f) (8 + n)) f)) :
    Calls Try.prog 10 #[.bool v6, .agg (arr16 s), .agg (arr16 d), .slice U (8 + n) cu] W fun e w' => ∃ P cp, e = .returned (.tuple #[.agg (udpc xp yp ns), .slice P n cp, .int .i64 0]) ∧ Own w' W.heap.size 5 P n cp f ∧ Below W.heap.size W w' := by
  obtain ⟨hby, hE, hfl, hk⟩ := udp_back h1 h2 hf (psq_bd v6 hs hd (pr := 17) (by omega) (by omega) (8 + n)) hx _ rfl
  obtain ⟨_, x4⟩ := udpX_ok hx
  have h := readU_any v6 s d hs hd U (8 + n) cu _ hby (by omega) hu.cap hu.cap_le W hu.rd
  rw [hE] at h
  refine h.mono fun e w' hq => ?_
  rcases hq with ⟨h', _⟩ | ⟨_, P, cp, he, hp, hb⟩
  · exact absurd rfl h'
  · rw [hfl, show (8 + n) - 8 = n by omega] at he
    rw [show (8 + n) - 8 = n by omega] at hp
    exact ⟨P, cp, he, hp.same fun k hk' => (hk k).symm, hb⟩
set_option maxRecDepth 100000 in
set_option maxHeartbeats 4000000 in
theorem writes_any (v6 : Bool) (s d : Nat → Int) (hs : Byt s) (hd : Byt d) (sp dp sq ak re fl wi ur : Int) (O : Option Addr) (on co : Nat) (fo : Nat → Int) (xp yp : Int) (ns : Bool) (A : Option Addr) (n c : Nat) (f : Nat → Int) (h1 : 0 ≤ sp ∧ sp ≤ 65535) (h2 : 0 ≤ dp ∧ dp ≤ 65535) (h3 : 0 ≤ sq ∧ sq ≤ 4294967295) (h4 : 0 ≤ ak ∧ ak ≤ 4294967295) (h5 : 0 ≤ re ∧ re ≤ 255) (h6 : 0 ≤ fl ∧ fl ≤ 255) (h7 : 0 ≤ wi ∧ wi ≤ 65535) (h8 : 0 ≤ ur ∧ ur ≤ 65535) (k1 : 0 ≤ xp ∧ xp ≤ 65535) (k2 : 0 ≤ yp ∧ yp ≤ 65535)
    (hfo : Byt fo) (hf : Byt f) (hon : on ≤ 1700) (hoc : on ≤ co) (hco : co ≤ 9223372036854775807) (hn : n ≤ 1700) (w : World) (hro : Rd w w.heap.size O on fo) (hr : Rd w w.heap.size A n f) :
    Calls Try.prog 4 #[.bool v6, .agg (arr16 s), .agg (arr16 d), .agg (tcpc sp dp sq ak re fl wi ur (.slice O on co)), .agg (udpc xp yp ns), .slice A n c] w fun e w' => e = .returned (.bool true) ∧ Below w.heap.size w w' := by
  have KN := Lib.hid known_any
  obtain ⟨mt, gt, htz, htn, hwt⟩ := writeR_common (tcpX on n re) (20 + on + n) (tcpB sp dp sq ak on re fl wi (rgt (psq v6 s d 6 (20 + on + n)) (tcpB sp dp sq ak on re fl wi 0 ur fo f) (20 + on + n)) ur fo f)
  obtain ⟨mu, gu, huz, hun, hwu⟩ := writeR_common (udpX v6 ns n) (8 + n) (udpB xp yp (8 + (n : Int)) (udpS ns (psq v6 s d 17 (8 + n)) (udpB xp yp (8 + (n : Int)) 0 f) (8 + n)) f)
  obtain ⟨E, hE⟩ : ∃ E, E = tcpX on n re := ⟨_, rfl⟩
  obtain ⟨F, hF⟩ : ∃ F, F = udpX v6 ns n := ⟨_, rfl⟩
  have HWT : Hid (∀ A' c' W, Rd W W.heap.size O on fo → Rd W W.heap.size A' n f → Calls Try.prog 14 #[.bool v6, .agg (arr16 s), .agg (arr16 d), .agg (tcpc sp dp sq ak re fl wi ur (.slice O on co)), .slice A' n c'] W fun e w' => ∃ U cu, e = .returned (.tuple #[.slice U mt cu, .int .i64 E]) ∧ Own w' W.heap.size 5 U mt cu gt ∧ Below W.heap.size W w') := Lib.hid fun A' c' W ho hr => by
    rw [hE]
    exact (writeT_any v6 s d hs hd sp dp sq ak re fl wi ur O on co fo A' n c' f h1 h2 h3 h4 h5 h6 h7 h8 hfo hf (by omega) (by omega) hoc hco W ho hr).mono fun e w' hq => hwt _ _ _ _ hq
  have HRWT : Hid (∀ A' c' W, Rd W W.heap.size O on fo → Rd W W.heap.size A' n f → Calls Try.prog 15 #[.bool v6, .agg (arr16 s), .agg (arr16 d), .agg (tcpc sp dp sq ak re fl wi ur (.slice O on co)), .slice A' n c'] W fun e w' => ∃ U cu, e = .returned (.tuple #[.slice U mt cu, .int .i64 E]) ∧ Own w' W.heap.size 5 U mt cu gt ∧ Below W.heap.size W w') := Lib.hid fun A' c' W ho hr => by
    rw [hE]
    exact (rwriteT_any v6 s d hs hd sp dp sq ak re fl wi ur O on co fo A' n c' f h1 h2 h3 h4 h5 h6 h7 h8 hfo hf (by omega) (by omega) W ho hr).mono fun e w' hq => hwt _ _ _ _ hq
  have HWU : Hid (∀ A' c' W, Rd W W.heap.size A' n f → Calls Try.prog 16 #[.bool v6, .agg (arr16 s), .agg (arr16 d), .agg (udpc xp yp ns), .slice A' n c'] W fun e w' => ∃ U cu, e = .returned (.tuple #[.slice U mu cu, .int .i64 F]) ∧ Own w' W.heap.size 5 U mu cu gu ∧ Below W.heap.size W w') := Lib.hid fun A' c' W hr => by
    rw [hF]
    exact (writeU_any v6 s d hs hd xp yp ns A' n c' f k1 k2 hf (by omega) W hr).mono fun e w' hq => hwu _ _ _ _ hq
  have HRWU : Hid (∀ A' c' W, Rd W W.heap.size A' n f → Calls Try.prog 17 #[.bool v6, .agg (arr16 s), .agg (arr16 d), .agg (udpc xp yp ns), .slice A' n c'] W fun e w' => ∃ U cu, e = .returned (.tuple #[.slice U mu cu, .int .i64 F]) ∧ Own w' W.heap.size 5 U mu cu gu ∧ Below W.heap.size W w') := Lib.hid fun A' c' W hr => by
    rw [hF]
    exact (rwriteU_any v6 s d hs hd xp yp ns A' n c' f k1 k2 hf (by omega) W hr).mono fun e w' hq => hwu _ _ _ _ hq
  have HBT : Hid (E = 0 → ∀ U cu base W, Own W base 5 U mt cu gt → Calls Try.prog 7 #[.bool v6, .agg (arr16 s), .agg (arr16 d), .slice U mt cu] W fun e w' => ∃ O co P cp, e = .returned (.tuple #[.agg (tcpc sp dp sq ak re fl wi ur (.slice O on co)), .slice P n cp, .int .i64 0]) ∧ Own w' W.heap.size 5 O on co fo ∧ Own w' W.heap.size 5 P n cp f ∧ Below W.heap.size W w') := Lib.hid fun h0 => by
    rw [hE] at h0
    obtain ⟨e1, e2⟩ := htz h0
    intro U cu base W hu
    rw [e1, e2] at hu
    rw [e1]
    exact readT_back v6 s d hs hd sp dp sq ak re fl wi ur on fo n f h1 h2 h3 h4 h5 h6 h7 h8 hfo hf h0 U cu base W hu
  have HBU : Hid (F = 0 → ∀ U cu base W, Own W base 5 U mu cu gu → Calls Try.prog 10 #[.bool v6, .agg (arr16 s), .agg (arr16 d), .slice U mu cu] W fun e w' => ∃ P cp, e = .returned (.tuple #[.agg (udpc xp yp ns), .slice P n cp, .int .i64 0]) ∧ Own w' W.heap.size 5 P n cp f ∧ Below W.heap.size W w') := Lib.hid fun h0 U cu base W hu => by
    rw [hF] at h0
    obtain ⟨e1, e2⟩ := huz h0
    rw [e1, e2] at hu
    rw [e1]
    exact readU_back v6 s d hs hd xp yp ns n f k1 k2 hf h0 U cu base W hu
  have HSM : Hid (∀ O1 O2 c1 c2 W, Rd W W.heap.size O1 on fo → Rd W W.heap.size O2 on fo → Calls Try.prog 9 #[.agg (tcpc sp dp sq ak re fl wi ur (.slice O1 on c1)), .agg (tcpc sp dp sq ak re fl wi ur (.slice O2 on c2))] W fun e w' => e = .returned (.bool true) ∧ Below W.heap.size W w') := Lib.hid fun O1 O2 c1 c2 W ha hb => rsame_any sp dp sq ak re fl wi ur O1 O2 on c1 c2 fo W ha hb
  have HRO := Lib.hid hro
  have HR := Lib.hid hr
  clear hs hd hfo hf hro hr htz htn huz hun hwt hwu hE hF h1 h2 h3 h4 h5 h6 h7 h8 k1 k2
  have g1 : ¬ (1700 : Int) < (n : Int) := by omega
  have g2 : ¬ (1700 : Int) < (on : Int) := by omega
  have HX1 := Lib.hid (BoxW.start w s d (tcpc sp dp sq ak re fl wi ur (.slice O on co)) (udpc xp yp ns))
  go_enter Try.func4, Try.ntmps4
  go_upto_region 1 with fail
  change Code.wp _ _ _ _ ((((w.alloc (.cells (arr16 s) 22)).alloc (.cells (arr16 d) 22)).alloc (.cells (tcpc sp dp sq ak re fl wi ur (.slice O on co)) 28)).alloc (.cells (udpc xp yp ns) 34))
  generalize (((w.alloc (.cells (arr16 s) 22)).alloc (.cells (arr16 d) 22)).alloc (.cells (tcpc sp dp sq ak re fl wi ur (.slice O on co)) 28)).alloc (.cells (udpc xp yp ns) 34) = u1 at *
  have a8 : u1.cell? ⟨w.heap.size + 1 + 1, 8, none⟩ = some (.slice O on co) := blk_cell HX1.out.box.b2 8
  go_upto_if 35 with fail
  clear a8
  go_wp2_with (first
    | (refine wpList_load_roww rfl 22 (.tmp 7) rfl w.heap.size rfl 22 (arr16 s) (0, 0) _ HX1.out.box.b0 Try.underlying22 rfl (by kernel_rfl) ?_) | (refine wpList_load_roww rfl 22 (.tmp 8) rfl (w.heap.size + 1) rfl 22 (arr16 d) (0, 0) _ HX1.out.box.b1 Try.underlying22 rfl (by kernel_rfl) ?_) | (refine wpList_load_roww rfl 28 (.tmp 9) rfl (w.heap.size + 1 + 1) rfl 28 (tcpc sp dp sq ak re fl wi ur (.slice O on co)) (0, 0) _ HX1.out.box.b2 Try.underlying28 rfl (by kernel_rfl) ?_) | (refine wpList_load_roww rfl 34 (.tmp 10) rfl (w.heap.size + 1 + 1 + 1) rfl 34 (udpc xp yp ns) (0, 0) _ HX1.out.b3 Try.underlying34 rfl (by kernel_rfl) ?_))
  go_at_call 14
  refine (HWT.out A c u1 ((HRO.out.keep HX1.out.box.below).more HX1.out.box.below.size) ((HR.out.keep HX1.out.box.below).more HX1.out.box.below.size)).mono ?_
  rintro e u2 ⟨U1, cu1, rfl, hu1, hb2⟩
  have HX2 := Lib.hid (HX1.out.step hb2)
  have HU1 := Lib.hid hu1
  clear hu1 hb2 HX1 HWT
  go_wp2_with (first
    | (refine wpList_load_roww rfl 22 (.tmp 7) rfl w.heap.size rfl 22 (arr16 s) (0, 0) _ HX2.out.box.b0 Try.underlying22 rfl (by kernel_rfl) ?_) | (refine wpList_load_roww rfl 22 (.tmp 8) rfl (w.heap.size + 1) rfl 22 (arr16 d) (0, 0) _ HX2.out.box.b1 Try.underlying22 rfl (by kernel_rfl) ?_) | (refine wpList_load_roww rfl 28 (.tmp 9) rfl (w.heap.size + 1 + 1) rfl 28 (tcpc sp dp sq ak re fl wi ur (.slice O on co)) (0, 0) _ HX2.out.box.b2 Try.underlying28 rfl (by kernel_rfl) ?_) | (refine wpList_load_roww rfl 34 (.tmp 10) rfl (w.heap.size + 1 + 1 + 1) rfl 34 (udpc xp yp ns) (0, 0) _ HX2.out.b3 Try.underlying34 rfl (by kernel_rfl) ?_))
  go_at_call 15
  refine (HRWT.out A c u2 ((HRO.out.keep HX2.out.box.below).more HX2.out.box.below.size) ((HR.out.keep HX2.out.box.below).more HX2.out.box.below.size)).mono ?_
  rintro e u3 ⟨U2, cu2, rfl, hu2, hb3⟩
  have HX3 := Lib.hid (HX2.out.step hb3)
  have HU13 := Lib.hid (HU1.out.below hb3)
  have HU2 := Lib.hid hu2
  clear hu2 hb3 HX2 HU1 HRWT
  go_wp2_with (first
    | (refine wpList_load_roww rfl 22 (.tmp 7) rfl w.heap.size rfl 22 (arr16 s) (0, 0) _ HX3.out.box.b0 Try.underlying22 rfl (by kernel_rfl) ?_) | (refine wpList_load_roww rfl 22 (.tmp 8) rfl (w.heap.size + 1) rfl 22 (arr16 d) (0, 0) _ HX3.out.box.b1 Try.underlying22 rfl (by kernel_rfl) ?_) | (refine wpList_load_roww rfl 28 (.tmp 9) rfl (w.heap.size + 1 + 1) rfl 28 (tcpc sp dp sq ak re fl wi ur (.slice O on co)) (0, 0) _ HX3.out.box.b2 Try.underlying28 rfl (by kernel_rfl) ?_) | (refine wpList_load_roww rfl 34 (.tmp 10) rfl (w.heap.size + 1 + 1 + 1) rfl 34 (udpc xp yp ns) (0, 0) _ HX3.out.b3 Try.underlying34 rfl (by kernel_rfl) ?_))
  go_at_call 16
  refine (HWU.out A c u3 ((HR.out.keep HX3.out.box.below).more HX3.out.box.below.size)).mono ?_
  rintro e u4 ⟨U3, cu3, rfl, hu3, hb4⟩
  have HX4 := Lib.hid (HX3.out.step hb4)
  have HU14 := Lib.hid (HU13.out.below hb4)
  have HU24 := Lib.hid (HU2.out.below hb4)
  have HU3 := Lib.hid hu3
  clear hu3 hb4 HX3 HU13 HU2 HWU
  go_wp2_with (first
    | (refine wpList_load_roww rfl 22 (.tmp 7) rfl w.heap.size rfl 22 (arr16 s) (0, 0) _ HX4.out.box.b0 Try.underlying22 rfl (by kernel_rfl) ?_) | (refine wpList_load_roww rfl 22 (.tmp 8) rfl (w.heap.size + 1) rfl 22 (arr16 d) (0, 0) _ HX4.out.box.b1 Try.underlying22 rfl (by kernel_rfl) ?_) | (refine wpList_load_roww rfl 28 (.tmp 9) rfl (w.heap.size + 1 + 1) rfl 28 (tcpc sp dp sq ak re fl wi ur (.slice O on co)) (0, 0) _ HX4.out.box.b2 Try.underlying28 rfl (by kernel_rfl) ?_) | (refine wpList_load_roww rfl 34 (.tmp 10) rfl (w.heap.size + 1 + 1 + 1) rfl 34 (udpc xp yp ns) (0, 0) _ HX4.out.b3 Try.underlying34 rfl (by kernel_rfl) ?_))
  go_at_call 17
  refine (HRWU.out A c u4 ((HR.out.keep HX4.out.box.below).more HX4.out.box.below.size)).mono ?_
  rintro e u5 ⟨U4, cu4, rfl, hu4, hb5⟩
  have HX5 := Lib.hid (HX4.out.step hb5)
  have HU15 := Lib.hid (HU14.out.below hb5)
  have HU35 := Lib.hid (HU3.out.below hb5)
  have hv1 := run_convert_rd (P := Try.prog) HU15.out.rd 23 5 9 cu1 Try.underlying23 Try.underlying5 Try.underlying9
  have hv2 := run_convert_rd (P := Try.prog) (HU24.out.below hb5).rd 23 5 9 cu2 Try.underlying23 Try.underlying5 Try.underlying9
  have hv3 := run_convert_rd (P := Try.prog) HU35.out.rd 23 5 9 cu3 Try.underlying23 Try.underlying5 Try.underlying9
  have hv4 := run_convert_rd (P := Try.prog) hu4.rd 23 5 9 cu4 Try.underlying23 Try.underlying5 Try.underlying9
  generalize strOfNums (nums mt gt) = S1 at hv1 hv2
  generalize strOfNums (nums mu gu) = S2 at hv3 hv4
  clear hu4 hb5 HX4 HU14 HU24 HU3 HRWU
  go_upto_if 94 with fail
  clear hv1 hv2 hv3 hv4
  go_upto_if 96 with fail
  go_cut [] from 21 to 120 (fun wx => Hid (Below u5.heap.size u5 wx))
  case first =>
    by_cases hE0 : E = 0
    · have HB1 := Lib.hid (HBT.out hE0 U1 cu1 _ u5 HU15.out)
      subst hE0
      clear HBT
      go_wp2_with (first
        | (refine wpList_load_roww rfl 22 (.tmp 7) rfl w.heap.size rfl 22 (arr16 s) (0, 0) _ HX5.out.box.b0 Try.underlying22 rfl (by kernel_rfl) ?_) | (refine wpList_load_roww rfl 22 (.tmp 8) rfl (w.heap.size + 1) rfl 22 (arr16 d) (0, 0) _ HX5.out.box.b1 Try.underlying22 rfl (by kernel_rfl) ?_) | (refine wpList_load_roww rfl 28 (.tmp 9) rfl (w.heap.size + 1 + 1) rfl 28 (tcpc sp dp sq ak re fl wi ur (.slice O on co)) (0, 0) _ HX5.out.box.b2 Try.underlying28 rfl (by kernel_rfl) ?_) | (refine wpList_load_roww rfl 34 (.tmp 10) rfl (w.heap.size + 1 + 1 + 1) rfl 34 (udpc xp yp ns) (0, 0) _ HX5.out.b3 Try.underlying34 rfl (by kernel_rfl) ?_))
      go_at_call 7
      refine HB1.out.mono ?_
      rintro e u6 ⟨O6, co6, P6, cp6, rfl, ho6, hp6, hb6⟩
      obtain ⟨CS, hCS⟩ : ∃ CS, CS = tcpc sp dp sq ak re fl wi ur (.slice O6 on co6) := ⟨_, rfl⟩
      have HCS := Lib.hid hCS
      have H1 : Hid (CS.all (·.oneCell') = true) := Lib.hid (by rw [hCS]; exact tcp_one ..)
      have HSZ : Hid (CS.size = 9) := Lib.hid (by rw [hCS]; rfl)
      have hi9 := Lib.hid (show (Try.prog.info? 28).map (·.size) = some 9 by kernel_rfl)
      rw [← hCS]
      clear hCS HB1
      have HN : Hid ((u6.alloc (.cells tcpz 28)).heap[u6.heap.size]? = some (.cells tcpz 28 (0, 0))) := heap_alloc_new u6 _
      have HB_s : Hid (Below u6.heap.size u6 ((u6.alloc (.cells tcpz 28)).setRow u6.heap.size CS)) := below_setRow (below_alloc u6 _) (Nat.le_refl _) CS
      have HT_s : Hid (((u6.alloc (.cells tcpz 28)).setRow u6.heap.size CS).heap[u6.heap.size]? = some (.cells CS 28 (0, 0))) := setRow_heap _ _ _ CS _ _ HN.out
      go_upto_region 11 with (first
        | (refine wpList_store_row rfl 28 (.tmp 21) (.tmp 103) rfl u6.heap.size CS rfl rfl 28 tcpz HN.out (hi9.out.trans (by rw [HSZ.out])) (by rw [HSZ.out]; rfl) H1.out ?_))
      change Code.wp _ _ _ _ ((u6.alloc (.cells tcpz 28)).setRow u6.heap.size CS)
      clear HN
      generalize (u6.alloc (.cells tcpz 28)).setRow u6.heap.size CS = u7 at *
      have HT7 := HT_s
      have B57 : Hid (Below u5.heap.size u5 u7) := hb6.trans (HB_s.out.mono hb6.size)
      have HO7 := Lib.hid (ho6.below HB_s.out)
      have HP7 := Lib.hid (hp6.below HB_s.out)
      have HX7 := Lib.hid (HX5.out.step B57.out)
      clear HT_s HB_s ho6 hp6 hb6
      have HSM7 : Hid (Calls Try.prog 9 #[.agg CS, .agg (tcpc sp dp sq ak re fl wi ur (.slice O on co))] u7 fun e w' => e = .returned (.bool true) ∧ Below u7.heap.size u7 w') := Lib.hid (by
        rw [HCS.out]
        exact HSM.out O6 O co6 co u7 HO7.out.rd ((HRO.out.keep HX7.out.box.below).more HX7.out.box.below.size))
      obtain ⟨S, hS⟩ : ∃ S, ∀ w7, Below u7.heap.size u7 w7 → (convert 23 9 (.slice P6 n cp6)).run Try.prog w7 = .ok (.string S) w7 ∧ (convert 23 9 (.slice A n c)).run Try.prog w7 = .ok (.string S) w7 := ⟨strOfNums (nums n f), fun w7 hb7 =>
        ⟨run_convert_rd (P := Try.prog) (HP7.out.below hb7).rd 23 5 9 cp6 Try.underlying23 Try.underlying5 Try.underlying9, run_convert_rd (P := Try.prog) (HR.out.keep (HX7.out.box.below.trans (hb7.mono HX7.out.box.below.size))) 23 5 9 c Try.underlying23 Try.underlying5 Try.underlying9⟩⟩
      have HSS := Lib.hid hS
      clear hS HCS HO7 HP7
      go_wp2_with (first
        | (refine wpList_load_roww rfl 28 (.tmp 21) rfl u6.heap.size rfl 28 CS (0, 0) _ HT7.out Try.underlying28 rfl (hi9.out.trans (by rw [HSZ.out])) ?_)
        | (refine wpList_load_roww rfl 28 (.tmp 9) rfl (w.heap.size + 1 + 1) rfl 28 (tcpc sp dp sq ak re fl wi ur (.slice O on co)) (0, 0) _ HX7.out.box.b2 Try.underlying28 rfl (by kernel_rfl) ?_)
        | (go_at_call 9
           refine HSM7.out.mono ?_
           rintro e u8 ⟨rfl, hb8⟩
           obtain ⟨hv1, hv2⟩ := HSS.out u8 hb8
           have B58 : Hid (Below u5.heap.size u5 u8) := B57.out.trans (hb8.mono B57.out.size)
           clear hb8))
      go_meet
      exact B58
    · have hE1 : (E == 0) = false := by simpa using hE0
      clear hE0 HBT
      go_wp2_with fail
      go_meet
      exact Lib.hid (Below.refl _ _)
  case rest =>
  have B5c := hcut
  clear hcut HBT HU15 HSM
  have HXc := Lib.hid (HX5.out.step B5c.out)
  have HU3c := Lib.hid (HU35.out.below B5c.out)
  clear HX5 HU35 B5c
  by_cases hF0 : F = 0
  · have HB1 := Lib.hid (HBU.out hF0 U3 cu3 _ wc HU3c.out)
    subst hF0
    clear HBU
    go_wp2_with (first
      | (refine wpList_load_roww rfl 22 (.tmp 7) rfl w.heap.size rfl 22 (arr16 s) (0, 0) _ HXc.out.box.b0 Try.underlying22 rfl (by kernel_rfl) ?_) | (refine wpList_load_roww rfl 22 (.tmp 8) rfl (w.heap.size + 1) rfl 22 (arr16 d) (0, 0) _ HXc.out.box.b1 Try.underlying22 rfl (by kernel_rfl) ?_) | (refine wpList_load_roww rfl 28 (.tmp 9) rfl (w.heap.size + 1 + 1) rfl 28 (tcpc sp dp sq ak re fl wi ur (.slice O on co)) (0, 0) _ HXc.out.box.b2 Try.underlying28 rfl (by kernel_rfl) ?_) | (refine wpList_load_roww rfl 34 (.tmp 10) rfl (w.heap.size + 1 + 1 + 1) rfl 34 (udpc xp yp ns) (0, 0) _ HXc.out.b3 Try.underlying34 rfl (by kernel_rfl) ?_))
    go_at_call 10
    refine HB1.out.mono ?_
    rintro e u6 ⟨P6, cp6, rfl, hp6, hb6⟩
    obtain ⟨CV, hCV⟩ : ∃ CV, CV = (udpc xp yp ns) := ⟨_, rfl⟩
    have HCV := Lib.hid hCV
    have H1 : Hid (CV.all (·.oneCell') = true) := Lib.hid (by rw [hCV]; exact udp_one ..)
    have HSZ : Hid (CV.size = 3) := Lib.hid (by rw [hCV]; rfl)
    have hi3 := Lib.hid (show (Try.prog.info? 34).map (·.size) = some 3 by kernel_rfl)
    rw [← hCV]
    clear hCV HB1
    have HN : Hid ((u6.alloc (.cells udpz 34)).heap[u6.heap.size]? = some (.cells udpz 34 (0, 0))) := heap_alloc_new u6 _
    have HB_s : Hid (Below u6.heap.size u6 ((u6.alloc (.cells udpz 34)).setRow u6.heap.size CV)) := below_setRow (below_alloc u6 _) (Nat.le_refl _) CV
    have HT_s : Hid (((u6.alloc (.cells udpz 34)).setRow u6.heap.size CV).heap[u6.heap.size]? = some (.cells CV 34 (0, 0))) := setRow_heap _ _ _ CV _ _ HN.out
    go_upto_region 15 with (first
      | (refine wpList_store_row rfl 34 (.tmp 24) (.tmp 129) rfl u6.heap.size CV rfl rfl 34 udpz HN.out (hi3.out.trans (by rw [HSZ.out])) (by rw [HSZ.out]; rfl) H1.out ?_))
    change Code.wp _ _ _ _ ((u6.alloc (.cells udpz 34)).setRow u6.heap.size CV)
    clear HN
    generalize (u6.alloc (.cells udpz 34)).setRow u6.heap.size CV = u7 at *
    have HT7 := HT_s
    have HX7 := Lib.hid ((HXc.out.step hb6).step HB_s.out)
    have HP7 := Lib.hid (hp6.below HB_s.out)
    clear HT_s HB_s hp6 hb6
    have heq : ∀ W, (Op.equalIn 10000 34 (.agg CV) (.agg (udpc xp yp ns))).run Try.prog W = .ok true W := fun W => by
      rw [HCV.out]
      exact eqU xp yp ns W
    have hv1 := run_convert_rd (P := Try.prog) HP7.out.rd 23 5 9 cp6 Try.underlying23 Try.underlying5 Try.underlying9
    have hv2 := run_convert_rd (P := Try.prog) (HR.out.keep HX7.out.box.below) 23 5 9 c Try.underlying23 Try.underlying5 Try.underlying9
    generalize strOfNums (nums n f) = S3 at hv1 hv2
    go_wp2_with (first
      | (refine wpList_load_roww rfl 34 (.tmp 24) rfl u6.heap.size rfl 34 CV (0, 0) _ HT7.out Try.underlying34 rfl (hi3.out.trans (by rw [HSZ.out])) ?_)
      | (refine wpList_load_roww rfl 34 (.tmp 10) rfl (w.heap.size + 1 + 1 + 1) rfl 34 (udpc xp yp ns) (0, 0) _ HX7.out.b3 Try.underlying34 rfl (by kernel_rfl) ?_)
      | (go_at_call 6; refine (KN.out _).mono ?_; rintro e u9 ⟨rfl, hb9⟩))
    go_ret
    exact ⟨rfl, HX7.out.box.below.trans (hb9.mono HX7.out.box.below.size)⟩
  · have hF1 : (F == 0) = false := by simpa using hF0
    go_wp2_with (first
      | (go_at_call 6; refine (KN.out _).mono ?_; rintro e u9 ⟨rfl, hb9⟩))
    go_ret
    exact ⟨rfl, HXc.out.box.below.trans (hb9.mono HXc.out.box.below.size)⟩
set_option maxRecDepth 100000 in
set_option maxHeartbeats 1000000 in
theorem writes_long (v6 : Bool) (s d : Nat → Int) (sp dp sq ak re fl wi ur : Int) (O : Option Addr) (on co : Nat) (xp yp : Int) (ns : Bool) (A : Option Addr) (n c : Nat) (hon : on ≤ 9223372036854775807) (hn : n ≤ 9223372036854775807) (h : 1700 < on ∨ 1700 < n) (w : World) :
    Calls Try.prog 4 #[.bool v6, .agg (arr16 s), .agg (arr16 d), .agg (tcpc sp dp sq ak re fl wi ur (.slice O on co)), .agg (udpc xp yp ns), .slice A n c] w fun e w' => e = .returned (.bool true) ∧ Below w.heap.size w w' := by
  have KN := Lib.hid known_any
  have HX1 := Lib.hid (BoxW.start w s d (tcpc sp dp sq ak re fl wi ur (.slice O on co)) (udpc xp yp ns))
  by_cases a : 1700 < on
  · have a' : (1700 : Int) < (on : Int) := by omega
    clear h
    go_enter Try.func4, Try.ntmps4
    go_upto_region 1 with fail
    change Code.wp _ _ _ _ ((((w.alloc (.cells (arr16 s) 22)).alloc (.cells (arr16 d) 22)).alloc (.cells (tcpc sp dp sq ak re fl wi ur (.slice O on co)) 28)).alloc (.cells (udpc xp yp ns) 34))
    generalize (((w.alloc (.cells (arr16 s) 22)).alloc (.cells (arr16 d) 22)).alloc (.cells (tcpc sp dp sq ak re fl wi ur (.slice O on co)) 28)).alloc (.cells (udpc xp yp ns) 34) = u1 at *
    have a8 : u1.cell? ⟨w.heap.size + 1 + 1, 8, none⟩ = some (.slice O on co) := blk_cell HX1.out.box.b2 8
    go_wp2_with (first
      | (go_at_call 6; refine (KN.out _).mono ?_; rintro e w3 ⟨rfl, hb3⟩))
    go_ret
    exact ⟨rfl, HX1.out.box.below.trans (hb3.mono HX1.out.box.below.size)⟩
  · have a' : ¬ (1700 : Int) < (on : Int) := by omega
    have c' : (1700 : Int) < (n : Int) := by omega
    clear h
    go_enter Try.func4, Try.ntmps4
    go_upto_region 1 with fail
    change Code.wp _ _ _ _ ((((w.alloc (.cells (arr16 s) 22)).alloc (.cells (arr16 d) 22)).alloc (.cells (tcpc sp dp sq ak re fl wi ur (.slice O on co)) 28)).alloc (.cells (udpc xp yp ns) 34))
    generalize (((w.alloc (.cells (arr16 s) 22)).alloc (.cells (arr16 d) 22)).alloc (.cells (tcpc sp dp sq ak re fl wi ur (.slice O on co)) 28)).alloc (.cells (udpc xp yp ns) 34) = u1 at *
    have a8 : u1.cell? ⟨w.heap.size + 1 + 1, 8, none⟩ = some (.slice O on co) := blk_cell HX1.out.box.b2 8
    go_wp2_with (first
      | (go_at_call 6; refine (KN.out _).mono ?_; rintro e w3 ⟨rfl, hb3⟩))
    go_ret
    exact ⟨rfl, HX1.out.box.below.trans (hb3.mono HX1.out.box.below.size)⟩
end Go.Proofs.Ytmcapemlicjfjaa
