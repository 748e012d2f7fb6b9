/- The program's seg.WriteTCP. -/
import Derived.Test.YtmcapemlicjfjaaSd
namespace Go.Proofs.Ytmcapemlicjfjaa
open Go.RowKit
theorem lt_own {w : World} {base g n c : Nat} {e : TypeId} {f : Nat → Int} (h : Own w base e (some ⟨g, 0, none⟩) n c f) (hn : 0 < n) : g < w.heap.size := by
  obtain ⟨g', hg', _, hl, _⟩ := h.lies hn
  injection hg' with hg'
  injection hg' with hg'
  subst hg'
  exact hl
set_option maxRecDepth 100000 in
set_option maxHeartbeats 4000000 in
theorem writeT_any (v6 : Bool) (s d : Nat → Int) (hs : Byt s) (hd : Byt d) (sp dp sq ak rest fl wi ur : Int) (O : Option Addr) (on co : Nat) (fo : Nat → Int) (A : Option Addr) (n c : Nat) (f : Nat → Int)
    (h1 : 0 ≤ sp ∧ sp ≤ 65535) (h2 : 0 ≤ dp ∧ dp ≤ 65535) (h3 : 0 ≤ sq ∧ sq ≤ 4294967295) (h4 : 0 ≤ ak ∧ ak ≤ 4294967295) (h5 : 0 ≤ rest ∧ rest ≤ 255) (h6 : 0 ≤ fl ∧ fl ≤ 255) (h7 : 0 ≤ wi ∧ wi ≤ 65535) (h8 : 0 ≤ ur ∧ ur ≤ 65535)
    (hfo : Byt fo) (hf : Byt f) (hon : on ≤ 4000) (hn : n ≤ 4000) (hoc : on ≤ co) (hco : co ≤ 9223372036854775807) (w : World) (hro : Rd w w.heap.size O on fo) (hr : Rd w w.heap.size A n f) :
    Calls Try.prog 14 #[.bool v6, .agg (arr16 s), .agg (arr16 d), .agg (tcpc sp dp sq ak rest fl wi ur (.slice O on co)), .slice A n c] w
      (WrR w.heap.size 5 (tcpX on n rest) (20 + on + n) (tcpB sp dp sq ak on rest fl wi (rgt (psq v6 s d 6 (20 + on + n)) (tcpB sp dp sq ak on rest fl wi 0 ur fo f) (20 + on + n)) ur fo f) w) := by
  obtain ⟨i0, hi0, hz0, hz1, hz2⟩ := info_parts Try.info5
  have HI0 := Lib.hid hi0
  have HZ0 := Lib.hid hz0
  have HZ1 := Lib.hid hz1
  have HZ2 := Lib.hid hz2
  have HRO := Lib.hid hro
  have HR := Lib.hid hr
  have HFO := Lib.hid hfo
  have HF := Lib.hid hf
  have HS := Lib.hid hs
  have HD := Lib.hid hd
  clear hi0 hz0 hz1 hz2 hro hr hfo hf hs hd
  obtain ⟨R, hR⟩ : ∃ R, R = tcpX on n rest := ⟨_, rfl⟩
  rw [← hR]
  have HRE := Lib.hid hR
  clear hR
  have HX1 := Lib.hid (Box3.start w s d (tcpc sp dp sq ak rest fl wi ur (.slice O on co)) 28)
  go_enter Try.func14, Try.ntmps14
  go_upto_region 1 with fail
  change Code.wp _ _ _ _ (((w.alloc (.cells (arr16 s) 22)).alloc (.cells (arr16 d) 22)).alloc (.cells (tcpc sp dp sq ak rest fl wi ur (.slice O on co)) 28))
  generalize ((w.alloc (.cells (arr16 s) 22)).alloc (.cells (arr16 d) 22)).alloc (.cells (tcpc sp dp sq ak rest fl wi ur (.slice O on co)) 28) = u1 at *
  have a4 : u1.cell? ⟨w.heap.size + 1 + 1, 4, none⟩ = some (.int .u8 rest) := blk_cell HX1.out.b2 4
  have a8 : u1.cell? ⟨w.heap.size + 1 + 1, 8, none⟩ = some (.slice O on co) := blk_cell HX1.out.b2 8
  have hT : ((on : Int)).tmod 4 = ((on % 4 : Nat) : Int) := by rw [Int.tmod_eq_emod_of_nonneg (by omega)]; omega
  by_cases cA : 40 < on
  · have cA' : (on : Int) > 40 := by omega
    have hRe : R = 5 := HRE.out.trans (by unfold tcpX; rw [if_pos (.inl cA)])
    go_wp2_with fail
    go_ret2
    refine .inl ⟨by first | (rw [hRe]; decide) | decide, none, 0, by first | rfl | (rw [hRe] <;> rfl), Own.nil_ _ _ _ _, HX1.out.below⟩
  · have cA' : (on : Int) ≤ 40 := by omega
    by_cases cB : on % 4 = 0
    · have cB' : (((on % 4 : Nat) : Int) != 0) = false := by rw [cB]; rfl
      by_cases cC : 15 < rest
      · have hRe : R = 5 := HRE.out.trans (by unfold tcpX; rw [if_pos (.inr (.inr cC))])
        go_wp2_with fail
        go_ret2
        refine .inl ⟨by first | (rw [hRe]; decide) | decide, none, 0, by first | rfl | (rw [hRe] <;> rfl), Own.nil_ _ _ _ _, HX1.out.below⟩
      · have cC' : rest ≤ 15 := by omega
        go_upto_if 30 with fail
        clear cB'
        by_cases cL : 1660 < (20 + on + n)
        · have cL' : (n : Int) > 1660 - (20 + (on : Int)) := by omega
          have hRe : R = 3 := HRE.out.trans (by unfold tcpX; rw [if_neg (by omega), if_pos (by omega)])
          go_wp2_with fail
          go_ret2
          refine .inl ⟨by first | (rw [hRe]; decide) | decide, none, 0, by first | rfl | (rw [hRe] <;> rfl), Own.nil_ _ _ _ _, HX1.out.below⟩
        · have hm : (20 + on + n) ≤ 1660 := by omega
          have hRe : R = 0 := HRE.out.trans (by unfold tcpX; rw [if_neg (by omega), if_neg (by omega)])
          have cL' : (n : Int) ≤ 1660 - (20 + (on : Int)) := by omega
          have hmk : ∀ W : World, (Instr.makeSlice 23 (.int .i64 (20 + (on : Int) + (n : Int))) (.int .i64 (20 + (on : Int) + (n : Int)))).run Try.prog W = .ok (.slice (some ⟨W.heap.size, 0, none⟩) (20 + on + n) (20 + on + n)) (W.alloc (.cells (madeCells (Value.int .u8 0).cells (20 + on + n)) 5)) := fun W => by
            have h := run_make_bytes (P := Try.prog) W 23 5 i0 Try.underlying23 HI0.out HZ0.out HZ1.out HZ2.out (20 + on + n) (by omega)
            have e2 : (((20 + on + n) : Nat) : Int) = 20 + (on : Int) + (n : Int) := by omega
            rw [e2] at h
            exact h
          have HMK := Lib.hid fun W => mklayer_any (.slice (some ⟨u1.heap.size, 0, none⟩) (20 + on + n) (20 + on + n)) _ (20 + on + n) (20 + on + n) rfl W
          unfold lyV at HMK
          have HS2 : Hid (WrT w ((u1.alloc (.cells (madeCells (Value.int .u8 0).cells (20 + on + n)) 5)).alloc (.cells #[.slice (some ⟨u1.heap.size, 0, none⟩) (20 + on + n) (20 + on + n)] 23)) s d (tcpc sp dp sq ak rest fl wi ur (.slice O on co)) 28 u1.heap.size (u1.heap.size + 1) (20 + on + n) (fun _ => 0)) := Lib.hid (WrT.start HX1.out (20 + on + n) (by omega) 23)
          go_upto_region 8 with (first
            | (go_at_call 22; refine (HMK.out _).mono ?_; rintro e u2 ⟨rfl, hw2⟩; have HW2 := Lib.hid hw2; clear hw2))
          have hp1 : (u1.alloc (.cells (madeCells (Value.int .u8 0).cells (20 + on + n)) 5)).heap.size = u1.heap.size + 1 := by simp
          have HW2' : Hid (u2 = (u1.alloc (.cells (madeCells (Value.int .u8 0).cells (20 + on + n)) 5)).alloc (.cells #[.slice (some ⟨u1.heap.size, 0, none⟩) (20 + on + n) (20 + on + n)] 23)) := HW2.out
          rw [← HW2'.out] at HS2
          clear HW2 HW2' hmk HMK a4 a8 hT
          try rw [hp1]
          clear hp1
          obtain ⟨g, hg⟩ : ∃ g, g = u1.heap.size := ⟨_, rfl⟩
          obtain ⟨p, hp⟩ : ∃ p, p = u1.heap.size + 1 := ⟨_, rfl⟩
          rw [← hp] at HS2 ⊢
          rw [← hg] at HS2 ⊢
          clear hg hp HX1
          have a0 : u2.cell? ⟨w.heap.size + 1 + 1, 0, none⟩ = some (.int .u16 sp) := blk_cell HS2.out.box.b2 0
          have a1 : u2.cell? ⟨w.heap.size + 1 + 1, 1, none⟩ = some (.int .u16 dp) := blk_cell HS2.out.box.b2 1
          go_wp2_with fail
          have HL3 : Hid (Calls Try.prog 31 #[.int .i64 0, .slice (some ⟨u2.heap.size, 0, none⟩) 2 2, .pointer (some ⟨p, 0, none⟩)] (u2.alloc (.cells #[.int .u16 sp, .int .u16 dp] 25)) fun e w' => e = .returned (.tuple #[]) ∧ Own w' (w.heap.size + 1 + 1 + 1) 5 (some ⟨g, 0, none⟩) (20 + on + n) (20 + on + n) (layw (fun _ => 0) 0 (four sp dp 0 0) 2) ∧ (u2.alloc (.cells #[.int .u16 sp, .int .u16 dp] 25)).grownBy w' (some g)) :=
            layer_any (w.heap.size + 1 + 1 + 1) p g (20 + on + n) (20 + on + n) 0 u2.heap.size 2 2 (four sp dp 0 0) (fun _ => 0) (fun k _ => four_bd (by first | assumption | omega) (by first | assumption | omega) (by first | assumption | omega) (by first | assumption | omega) k) (u2.alloc (.cells #[.int .u16 sp, .int .u16 dp] 25)) (HS2.out.alloc _).ptr
              (fun k hk => by
                rw [blk_cell (heap_alloc_new u2 _) k]
                match k, hk with
                | 0, _ => rfl
                | 1, _ => rfl
          )
              (HS2.out.alloc _).own (by omega) (by omega) (Nat.ne_of_gt HS2.out.lt) (fun e => absurd (lt_own HS2.out.own (by omega)) (by omega))
          go_at_call 31
          refine HL3.out.mono ?_
          rintro e u3 ⟨rfl, ho3, hg3⟩
          have HS3 : Hid (WrT w u3 s d (tcpc sp dp sq ak rest fl wi ur (.slice O on co)) 28 g p (20 + on + n) (layw (fun _ => 0) 0 (four sp dp 0 0) 2)) := (HS2.out.alloc _).laid ho3 hg3
          clear ho3 hg3 HL3 HS2 a0 a1
          have g1 : IntKind.u16.wrap (sq / 65536) = sq / 65536 := by rw [IntKind.wrap_u16]; omega
          have g2 : IntKind.u16.wrap sq = sq % 65536 := by rw [IntKind.wrap_u16]
          have g3 : IntKind.u16.wrap (ak / 65536) = ak / 65536 := by rw [IntKind.wrap_u16]; omega
          have g4 : IntKind.u16.wrap ak = ak % 65536 := by rw [IntKind.wrap_u16]
          have a2 : u3.cell? ⟨w.heap.size + 1 + 1, 2, none⟩ = some (.int .u32 sq) := blk_cell HS3.out.box.b2 2
          have a3 : u3.cell? ⟨w.heap.size + 1 + 1, 3, none⟩ = some (.int .u32 ak) := blk_cell HS3.out.box.b2 3
          go_wp2_with fail
          have HL4 : Hid (Calls Try.prog 31 #[.int .i64 4, .slice (some ⟨u3.heap.size, 0, none⟩) 4 4, .pointer (some ⟨p, 0, none⟩)] (u3.alloc (.cells #[.int .u16 (sq / 65536), .int .u16 (sq % 65536), .int .u16 (ak / 65536), .int .u16 (ak % 65536)] 25)) fun e w' => e = .returned (.tuple #[]) ∧ Own w' (w.heap.size + 1 + 1 + 1) 5 (some ⟨g, 0, none⟩) (20 + on + n) (20 + on + n) (layw (layw (fun _ => 0) 0 (four sp dp 0 0) 2) 4 (four (sq / 65536) (sq % 65536) (ak / 65536) (ak % 65536)) 4) ∧ (u3.alloc (.cells #[.int .u16 (sq / 65536), .int .u16 (sq % 65536), .int .u16 (ak / 65536), .int .u16 (ak % 65536)] 25)).grownBy w' (some g)) :=
            layer_any (w.heap.size + 1 + 1 + 1) p g (20 + on + n) (20 + on + n) 4 u3.heap.size 4 4 (four (sq / 65536) (sq % 65536) (ak / 65536) (ak % 65536)) (layw (fun _ => 0) 0 (four sp dp 0 0) 2) (fun k _ => four_bd (by first | assumption | omega) (by first | assumption | omega) (by first | assumption | omega) (by first | assumption | omega) k) (u3.alloc (.cells #[.int .u16 (sq / 65536), .int .u16 (sq % 65536), .int .u16 (ak / 65536), .int .u16 (ak % 65536)] 25)) (HS3.out.alloc _).ptr
              (fun k hk => by
                rw [blk_cell (heap_alloc_new u3 _) k]
                match k, hk with
                | 0, _ => rfl
                | 1, _ => rfl
                | 2, _ => rfl
                | 3, _ => rfl
          )
              (HS3.out.alloc _).own (by omega) (by omega) (Nat.ne_of_gt HS3.out.lt) (fun e => absurd (lt_own HS3.out.own (by omega)) (by omega))
          go_at_call 31
          refine HL4.out.mono ?_
          rintro e u4 ⟨rfl, ho4, hg4⟩
          have HS4 : Hid (WrT w u4 s d (tcpc sp dp sq ak rest fl wi ur (.slice O on co)) 28 g p (20 + on + n) (layw (layw (fun _ => 0) 0 (four sp dp 0 0) 2) 4 (four (sq / 65536) (sq % 65536) (ak / 65536) (ak % 65536)) 4)) := (HS3.out.alloc _).laid ho4 hg4
          clear ho4 hg4 HL4 HS3 a2 a3 g1 g2 g3 g4
          obtain ⟨q, hq⟩ : ∃ q : Int, q = 5 + (on : Int) / 4 := ⟨_, rfl⟩
          have g0 : (20 + (on : Int)).tdiv 4 = q := by rw [Int.tdiv_eq_ediv_of_nonneg (by omega)]; omega
          have g0b : IntKind.i64.wrap q = q := by rw [IntKind.wrap_i64]; omega
          have g1 : IntKind.u16.wrap q = q := by rw [IntKind.wrap_u16]; omega
          have g2 : IntKind.u16.wrap (q * 4096) = q * 4096 := by rw [IntKind.wrap_u16]; omega
          have g3 : IntKind.u16.wrap rest = rest := by rw [IntKind.wrap_u16]; omega
          have g4 : IntKind.u16.wrap (rest * 256) = rest * 256 := by rw [IntKind.wrap_u16]; omega
          have g5 : bits .or .u16 (q * 4096) (rest * 256) = q * 4096 + rest * 256 := or_u16 q (rest * 256) 4096 12 rfl (by omega) (by omega) (by omega) (by omega)
          have g6 : IntKind.u16.wrap fl = fl := by rw [IntKind.wrap_u16]; omega
          obtain ⟨X, hX⟩ : ∃ X : Int, X = (q * 16 + rest) * 256 + fl := ⟨_, rfl⟩
          have g7 : bits .or .u16 (q * 4096 + rest * 256) fl = X := by
            have e : q * 4096 + rest * 256 = (q * 16 + rest) * 256 := by omega
            rw [hX, e]
            exact or_u16 (q * 16 + rest) fl 256 8 rfl (by omega) (by omega) (by omega) (by omega)
          have hXb : 0 ≤ X ∧ X ≤ 65535 := by omega
          have HXQ := Lib.hid (show X = (((5 + (on : Int) / 4) * 16 + rest) * 256 + fl) by rw [hX, hq])
          clear hq hX
          have a4 : u4.cell? ⟨w.heap.size + 1 + 1, 4, none⟩ = some (.int .u8 rest) := blk_cell HS4.out.box.b2 4
          have a5 : u4.cell? ⟨w.heap.size + 1 + 1, 5, none⟩ = some (.int .u8 fl) := blk_cell HS4.out.box.b2 5
          have a6 : u4.cell? ⟨w.heap.size + 1 + 1, 6, none⟩ = some (.int .u16 wi) := blk_cell HS4.out.box.b2 6
          have a7 : u4.cell? ⟨w.heap.size + 1 + 1, 7, none⟩ = some (.int .u16 ur) := blk_cell HS4.out.box.b2 7
          go_wp2_with fail
          have HL5 : Hid (Calls Try.prog 31 #[.int .i64 12, .slice (some ⟨u4.heap.size, 0, none⟩) 4 4, .pointer (some ⟨p, 0, none⟩)] (u4.alloc (.cells #[.int .u16 X, .int .u16 wi, .int .u16 0, .int .u16 ur] 25)) fun e w' => e = .returned (.tuple #[]) ∧ Own w' (w.heap.size + 1 + 1 + 1) 5 (some ⟨g, 0, none⟩) (20 + on + n) (20 + on + n) (layw (layw (layw (fun _ => 0) 0 (four sp dp 0 0) 2) 4 (four (sq / 65536) (sq % 65536) (ak / 65536) (ak % 65536)) 4) 12 (four X wi 0 ur) 4) ∧ (u4.alloc (.cells #[.int .u16 X, .int .u16 wi, .int .u16 0, .int .u16 ur] 25)).grownBy w' (some g)) :=
            layer_any (w.heap.size + 1 + 1 + 1) p g (20 + on + n) (20 + on + n) 12 u4.heap.size 4 4 (four X wi 0 ur) (layw (layw (fun _ => 0) 0 (four sp dp 0 0) 2) 4 (four (sq / 65536) (sq % 65536) (ak / 65536) (ak % 65536)) 4) (fun k _ => four_bd (by first | assumption | omega) (by first | assumption | omega) (by first | assumption | omega) (by first | assumption | omega) k) (u4.alloc (.cells #[.int .u16 X, .int .u16 wi, .int .u16 0, .int .u16 ur] 25)) (HS4.out.alloc _).ptr
              (fun k hk => by
                rw [blk_cell (heap_alloc_new u4 _) k]
                match k, hk with
                | 0, _ => rfl
                | 1, _ => rfl
                | 2, _ => rfl
                | 3, _ => rfl
          )
              (HS4.out.alloc _).own (by omega) (by omega) (Nat.ne_of_gt HS4.out.lt) (fun e => absurd (lt_own HS4.out.own (by omega)) (by omega))
          go_at_call 31
          refine HL5.out.mono ?_
          rintro e u5 ⟨rfl, ho5, hg5⟩
          have HS5 : Hid (WrT w u5 s d (tcpc sp dp sq ak rest fl wi ur (.slice O on co)) 28 g p (20 + on + n) (layw (layw (layw (fun _ => 0) 0 (four sp dp 0 0) 2) 4 (four (sq / 65536) (sq % 65536) (ak / 65536) (ak % 65536)) 4) 12 (four X wi 0 ur) 4)) := (HS4.out.alloc _).laid ho5 hg5
          clear ho5 hg5 HL5 HS4 a4 a5 a6 a7 g0 g0b g1 g2 g3 g4 g5 g6 g7
          have c4 := HS5.out.box.b2
          rw [HXQ.out] at HS5
          clear c4 HXQ hXb
          obtain ⟨D20, hD20, hD20'⟩ := slice_from g 0 (20 + on + n) (20 + on + n) 20 (by omega) (by omega) (by omega)
          have hD20r : ∀ W, (Instr.sliceAt 23 (.slice (some ⟨g, 0, none⟩) (20 + on + n) (20 + on + n)) (some (.int .i64 20)) none none).run Try.prog W = .ok (.slice D20 ((20 + on + n) - 20) ((20 + on + n) - 20)) W := hD20
          have HD20 := Lib.hid hD20'
          clear hD20 hD20'
          have a8 : u5.cell? ⟨w.heap.size + 1 + 1, 8, none⟩ = some (.slice O on co) := blk_cell HS5.out.box.b2 8
          have HK0 : Hid (u5.drew.cell? ⟨w.heap.size + 1 + 1, 8, none⟩ = some (.slice O on co)) := a8
          have HK1 : Hid (∀ vs, (u5.drew.setCells g 20 vs).cell? ⟨w.heap.size + 1 + 1, 8, none⟩ = some (.slice O on co)) := fun vs => (World.cell?_of_block (a := ⟨w.heap.size + 1 + 1, 8, none⟩) (other_setCells (Nat.ne_of_lt HS5.out.lo) vs 20 u5.drew)).trans a8
          go_upto_region 11 with fail
          go_region_held3 (fun w' => w'.cell? ⟨w.heap.size + 1 + 1, 8, none⟩ = some (.slice O on co)) (first | (with_reducible exact HK0.out) | (with_reducible exact HK1.out _))
            (first
            | (refine step_copy_rd rfl (.tmp 92) (.tmp 94) _ rfl (w.heap.size + 1 + 1 + 1) 5 Try.underlying23 (by kernel_rfl) HS5.out.own.drew rfl 20 (fun h => (HD20.out (by omega)).trans (by rw [Nat.zero_add])) (by omega) rfl (HRO.out.keep HS5.out.drew.box.below) on (by omega) ?_
               intro hoc
               have HO6 := Lib.hid hoc
               clear hoc))
          have HS6 : Hid (WrT w (u5.drew.setCells g 20 ((nums on fo).map (Value.int .u8))) s d (tcpc sp dp sq ak rest fl wi ur (.slice O on co)) 28 g p (20 + on + n) (over 20 on fo (layw (layw (layw (fun _ => 0) 0 (four sp dp 0 0) 2) 4 (four (sq / 65536) (sq % 65536) (ak / 65536) (ak % 65536)) 4) 12 (four (((5 + (on : Int) / 4) * 16 + rest) * 256 + fl) wi 0 ur) 4))) := HS5.out.drew.cells 20 _ HO6.out
          clear HS5 HO6 HK0 HK1 a8 HD20 hD20r
          generalize u5.drew.setCells g 20 ((nums on fo).map (Value.int .u8)) = u6 at *
          obtain ⟨DH, hDH, hDH'⟩ := slice_from g 0 (20 + on + n) (20 + on + n) (20 + on) (by omega) (by omega) (by omega)
          have hDHr : ∀ W, (Instr.sliceAt 23 (.slice (some ⟨g, 0, none⟩) (20 + on + n) (20 + on + n)) (some (.int .i64 (20 + (on : Int)))) none none).run Try.prog W = .ok (.slice DH ((20 + on + n) - (20 + on)) ((20 + on + n) - (20 + on))) W := fun W => by
            have h := hDH W
            rw [show ((20 + on : Nat) : Int) = 20 + (on : Int) by omega] at h
            exact h
          have HDH := Lib.hid hDH'
          clear hDH hDH'
          go_upto_region 13 with (first
            | (refine wpList_copy_rd rfl (.tmp 98) (.tmp 99) _ rfl (w.heap.size + 1 + 1 + 1) 5 Try.underlying23 (by kernel_rfl) HS6.out.own rfl (20 + on) (fun h => (HDH.out (by omega)).trans (by rw [Nat.zero_add])) (by omega) rfl (HR.out.keep HS6.out.box.below) n (by omega) ?_; intro hoc; have HO7 := Lib.hid hoc; clear hoc))
          have HS7 : Hid (WrT w (u6.setCells g (20 + on) ((nums n f).map (Value.int .u8))) s d (tcpc sp dp sq ak rest fl wi ur (.slice O on co)) 28 g p (20 + on + n) (over (20 + on) n f (over 20 on fo (layw (layw (layw (fun _ => 0) 0 (four sp dp 0 0) 2) 4 (four (sq / 65536) (sq % 65536) (ak / 65536) (ak % 65536)) 4) 12 (four (((5 + (on : Int) / 4) * 16 + rest) * 256 + fl) wi 0 ur) 4)))) := HS6.out.cells (20 + on) _ HO7.out
          clear HS6 HO7 HDH hDHr
          generalize u6.setCells g (20 + on) ((nums n f).map (Value.int .u8)) = u7 at *
          have HTB : Hid (Byt (tcpB sp dp sq ak on rest fl wi 0 ur fo f)) := cat_byt 20 (tcpH_byt h1 h2 h3 h4 (by omega) ⟨h5.1, by omega⟩ h6 h7 ⟨by omega, by omega⟩ h8) (cat_byt on HFO.out HF.out)
          have HS8 : Hid (WrT w u7 s d (tcpc sp dp sq ak rest fl wi ur (.slice O on co)) 28 g p (20 + on + n) (tcpB sp dp sq ak on rest fl wi 0 ur fo f)) := ⟨HS7.out.box, HS7.out.own.same fun k hk => tcp_laid fo f h1 h2 h3 h4 (by omega) (by omega) ⟨h5.1, by omega⟩ h6 k hk, HS7.out.ptr, HS7.out.lo, HS7.out.lt⟩
          clear HS7
          have HSO := Lib.hid fun W hr => sumOf_any v6 s d HS.out HD.out 6 (by omega) (by omega) (some ⟨g, 0, none⟩) (20 + on + n) (20 + on + n) _ HTB.out (by omega) (Nat.le_refl _) W hr
          have hcb := rgt_bd HTB.out (psq_bd v6 HS.out HD.out (pr := 6) (by omega) (by omega) (20 + on + n)) (20 + on + n)
          generalize rgt (psq v6 s d 6 (20 + on + n)) (tcpB sp dp sq ak on rest fl wi 0 ur fo f) (20 + on + n) = C at *
          have HTS := Lib.hid (tcpB_sum sp dp sq ak on rest fl wi C ur fo f)
          have HTB' := HTB
          clear HTB
          generalize (tcpB sp dp sq ak on rest fl wi 0 ur fo f) = TB at *
          go_wp2_with (first
            | (refine wpList_load_roww rfl 22 (.tmp 6) rfl w.heap.size rfl 22 (arr16 s) (0, 0) _ HS8.out.box.b0 Try.underlying22 rfl (by kernel_rfl) ?_)
            | (refine wpList_load_roww rfl 22 (.tmp 7) rfl (w.heap.size + 1) rfl 22 (arr16 d) (0, 0) _ HS8.out.box.b1 Try.underlying22 rfl (by kernel_rfl) ?_)
            | (go_at_call 18; refine (HSO.out _ HS8.out.own.rd).mono ?_; rintro e u9 ⟨rfl, hb8⟩; have HS9 := Lib.hid (HS8.out.step hb8); clear hb8))
          clear HSO HS8
          have HL10 : Hid (Calls Try.prog 31 #[.int .i64 16, .slice (some ⟨u9.heap.size, 0, none⟩) 1 1, .pointer (some ⟨p, 0, none⟩)] (u9.alloc (.cells #[.int .u16 C] 25)) fun e w' => e = .returned (.tuple #[]) ∧ Own w' (w.heap.size + 1 + 1 + 1) 5 (some ⟨g, 0, none⟩) (20 + on + n) (20 + on + n) (layw TB 16 (four C 0 0 0) 1) ∧ (u9.alloc (.cells #[.int .u16 C] 25)).grownBy w' (some g)) :=
            layer_any (w.heap.size + 1 + 1 + 1) p g (20 + on + n) (20 + on + n) 16 u9.heap.size 1 1 (four C 0 0 0) TB (fun k _ => four_bd (by first | assumption | omega) (by first | assumption | omega) (by first | assumption | omega) (by first | assumption | omega) k) (u9.alloc (.cells #[.int .u16 C] 25)) (HS9.out.alloc _).ptr
              (fun k hk => by
                rw [blk_cell (heap_alloc_new u9 _) k]
                match k, hk with
                | 0, _ => rfl
          )
              (HS9.out.alloc _).own (by omega) (by omega) (Nat.ne_of_gt HS9.out.lt) (fun e => absurd (lt_own HS9.out.own (by omega)) (by omega))
          go_at_call 31
          refine HL10.out.mono ?_
          rintro e u10 ⟨rfl, ho10, hg10⟩
          have HS10 : Hid (WrT w u10 s d (tcpc sp dp sq ak rest fl wi ur (.slice O on co)) 28 g p (20 + on + n) (lay2 TB 16 C)) := (HS9.out.alloc _).laid ho10 hg10
          clear ho10 hg10 HL10 HS9
          go_wp2_with fail
          go_ret2
          exact .inr ⟨by first | rfl | exact hRe, some ⟨g, 0, none⟩, (20 + on + n), rfl, (by rw [HTS.out]; exact HS10.out.own.le (by omega)), HS10.out.box.below⟩
    · have cB' : (((on % 4 : Nat) : Int) != 0) = true := by simp; omega
      have hRe : R = 5 := HRE.out.trans (by unfold tcpX; rw [if_pos (.inr (.inl cB))])
      go_wp2_with fail
      go_ret2
      refine .inl ⟨by first | (rw [hRe]; decide) | decide, none, 0, by first | rfl | (rw [hRe] <;> rfl), Own.nil_ _ _ _ _, HX1.out.below⟩
end Go.Proofs.Ytmcapemlicjfjaa
