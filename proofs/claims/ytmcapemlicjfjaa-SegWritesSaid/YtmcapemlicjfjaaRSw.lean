/- The document's WriteTCP. -/
import Derived.Test.YtmcapemlicjfjaaRSc
namespace Go.Proofs.Ytmcapemlicjfjaa
open Go.RowKit
theorem rd_two (w : World) (B g : Nat) (hg : g = w.heap.size) (hB : g < B) (x y : Int) (e : TypeId) : Rd (w.alloc (.cells #[.int .u8 x, .int .u8 y] e)) B (some ⟨g, 0, none⟩) 2 (two x y) := rd_new2 w B g hg hB x y e
set_option maxRecDepth 100000 in
set_option maxHeartbeats 4000000 in
theorem rwriteT_any (v6 : Bool) (s d : Nat → Int) (hs : Byt s) (hd : Byt d) (sp dp sq ak rest fl wi ur : Int) (O : Option Addr) (on co : Nat) (fo : Nat → Int) (A : Option Addr) (n c : Nat) (f : Nat → Int)
    (h1 : 0 ≤ sp ∧ sp ≤ 65535) (h2 : 0 ≤ dp ∧ dp ≤ 65535) (h3 : 0 ≤ sq ∧ sq ≤ 4294967295) (h4 : 0 ≤ ak ∧ ak ≤ 4294967295) (h5 : 0 ≤ rest ∧ rest ≤ 255) (h6 : 0 ≤ fl ∧ fl ≤ 255) (h7 : 0 ≤ wi ∧ wi ≤ 65535) (h8 : 0 ≤ ur ∧ ur ≤ 65535)
    (hfo : Byt fo) (hf : Byt f) (hon : on ≤ 4000) (hn : n ≤ 4000) (w : World) (hro : Rd w w.heap.size O on fo) (hr : Rd w w.heap.size A n f) :
    Calls Try.prog 15 #[.bool v6, .agg (arr16 s), .agg (arr16 d), .agg (tcpc sp dp sq ak rest fl wi ur (.slice O on co)), .slice A n c] w
      (WrR w.heap.size 5 (tcpX on n rest) (20 + on + n) (tcpB sp dp sq ak on rest fl wi (rgt (psq v6 s d 6 (20 + on + n)) (tcpB sp dp sq ak on rest fl wi 0 ur fo f) (20 + on + n)) ur fo f) w) := by
  obtain ⟨i0, hi0, hz0, hz1, hz2⟩ := info_parts Try.info5
  have HI0 := Lib.hid hi0
  have HZ0 := Lib.hid hz0
  have HZ1 := Lib.hid hz1
  have HZ2 := Lib.hid hz2
  have HRO := Lib.hid hro
  have HR := Lib.hid hr
  have HFO := Lib.hid hfo
  have HF := Lib.hid hf
  have HS := Lib.hid hs
  have HD := Lib.hid hd
  clear hi0 hz0 hz1 hz2 hro hr hfo hf hs hd
  obtain ⟨R, hR⟩ : ∃ R, R = tcpX on n rest := ⟨_, rfl⟩
  rw [← hR]
  have HRE := Lib.hid hR
  clear hR
  have HX1 := Lib.hid (Box3.start w s d (tcpc sp dp sq ak rest fl wi ur (.slice O on co)) 28)
  go_enter Try.func15, Try.ntmps15
  go_upto_region 1 with fail
  change Code.wp _ _ _ _ (((w.alloc (.cells (arr16 s) 22)).alloc (.cells (arr16 d) 22)).alloc (.cells (tcpc sp dp sq ak rest fl wi ur (.slice O on co)) 28))
  generalize ((w.alloc (.cells (arr16 s) 22)).alloc (.cells (arr16 d) 22)).alloc (.cells (tcpc sp dp sq ak rest fl wi ur (.slice O on co)) 28) = u1 at *
  have a4 : u1.cell? ⟨w.heap.size + 1 + 1, 4, none⟩ = some (.int .u8 rest) := blk_cell HX1.out.b2 4
  have a8 : u1.cell? ⟨w.heap.size + 1 + 1, 8, none⟩ = some (.slice O on co) := blk_cell HX1.out.b2 8
  have hT : ((on : Int)).tmod 4 = ((on % 4 : Nat) : Int) := by rw [Int.tmod_eq_emod_of_nonneg (by omega)]; omega
  by_cases cA : 40 < on
  · have cA' : (on : Int) > 40 := by omega
    have hRe : R = 5 := HRE.out.trans (by unfold tcpX; rw [if_pos (.inl cA)])
    go_wp2_with fail
    go_ret2
    refine .inl ⟨by first | (rw [hRe]; decide) | decide, none, 0, by first | rfl | (rw [hRe] <;> rfl), Own.nil_ _ _ _ _, HX1.out.below⟩
  · have cA' : (on : Int) ≤ 40 := by omega
    by_cases cB : on % 4 = 0
    · have cB' : (((on % 4 : Nat) : Int) != 0) = false := by rw [cB]; rfl
      by_cases cC : 15 < rest
      · have cC' : 16 ≤ rest := by omega
        have hRe : R = 5 := HRE.out.trans (by unfold tcpX; rw [if_pos (.inr (.inr cC))])
        go_wp2_with fail
        go_ret2
        refine .inl ⟨by first | (rw [hRe]; decide) | decide, none, 0, by first | rfl | (rw [hRe] <;> rfl), Own.nil_ _ _ _ _, HX1.out.below⟩
      · have cC' : rest < 16 := by omega
        go_upto_if 30 with fail
        clear cB'
        go_upto_if 38 with fail
        by_cases cL : 1660 < (20 + on + n)
        · have cL' : 20 + (on : Int) + (n : Int) > 1660 := by omega
          have hRe : R = 3 := HRE.out.trans (by unfold tcpX; rw [if_neg (by omega), if_pos (by omega)])
          go_wp2_with fail
          go_ret2
          refine .inl ⟨by first | (rw [hRe]; decide) | decide, none, 0, by first | rfl | (rw [hRe] <;> rfl), Own.nil_ _ _ _ _, HX1.out.below⟩
        · have hm : (20 + on + n) ≤ 1660 := by omega
          have hRe : R = 0 := HRE.out.trans (by unfold tcpX; rw [if_neg (by omega), if_neg (by omega)])
          have cL' : 20 + (on : Int) + (n : Int) ≤ 1660 := by omega
          have y0 : IntKind.u32.wrap sp = sp := by rw [IntKind.wrap_u32']; omega
          have y1 : IntKind.u32.wrap dp = dp := by rw [IntKind.wrap_u32']; omega
          have HL2 : Hid (∀ W, Below (w.heap.size + 1 + 1 + 1) u1 W → Calls Try.prog 23 #[.slice none 0 0, .int .u32 sp, .int .i64 2] W fun e w' => ∃ A' c', e = .returned (.slice A' 2 c') ∧ Own w' (w.heap.size + 1 + 1 + 1) 5 A' 2 c' (cat 0 (fun _ => 0) (layb sp 2)) ∧ W.grownBy w' (Value.ownBlock (.slice none 0 0)) ∧ (∀ q, Value.ownBlock (.slice A' 2 c') = some q → W.heap.size ≤ q ∨ Value.ownBlock (.slice none 0 0) = some q)) := Lib.hid fun W hW =>
            rlay2 (w.heap.size + 1 + 1 + 1) none 0 0 (fun _ => 0) sp 2 (by omega) ⟨by omega, by omega⟩ (by omega) W (Own.nil_ _ _ _ _) (Nat.le_trans HX1.out.size hW.size)
          have HK : Hid (∀ W, Below (w.heap.size + 1 + 1 + 1) u1 W → W.cell? ⟨w.heap.size + 1 + 1, 0, none⟩ = some (.int .u16 sp) ∧ W.cell? ⟨w.heap.size + 1 + 1, 1, none⟩ = some (.int .u16 dp) ∧ W.cell? ⟨w.heap.size + 1 + 1, 2, none⟩ = some (.int .u32 sq) ∧ W.cell? ⟨w.heap.size + 1 + 1, 3, none⟩ = some (.int .u32 ak)) := Lib.hid fun W hW => ⟨(hW.cell (p := ⟨w.heap.size + 1 + 1, 0, none⟩) (show w.heap.size + 1 + 1 < (w.heap.size + 1 + 1 + 1) by omega)).trans (blk_cell HX1.out.b2 0), (hW.cell (p := ⟨w.heap.size + 1 + 1, 1, none⟩) (show w.heap.size + 1 + 1 < (w.heap.size + 1 + 1 + 1) by omega)).trans (blk_cell HX1.out.b2 1), (hW.cell (p := ⟨w.heap.size + 1 + 1, 2, none⟩) (show w.heap.size + 1 + 1 < (w.heap.size + 1 + 1 + 1) by omega)).trans (blk_cell HX1.out.b2 2), (hW.cell (p := ⟨w.heap.size + 1 + 1, 3, none⟩) (show w.heap.size + 1 + 1 < (w.heap.size + 1 + 1 + 1) by omega)).trans (blk_cell HX1.out.b2 3)⟩
          go_upto_region 5 with fail
          go_region_held3 (fun w' => w'.cell? ⟨w.heap.size + 1 + 1, 0, none⟩ = some (.int .u16 sp) ∧ w'.cell? ⟨w.heap.size + 1 + 1, 1, none⟩ = some (.int .u16 dp) ∧ w'.cell? ⟨w.heap.size + 1 + 1, 2, none⟩ = some (.int .u32 sq) ∧ w'.cell? ⟨w.heap.size + 1 + 1, 3, none⟩ = some (.int .u32 ak)) (first | (with_reducible exact HK.out _ (Below.refl _ _)) | (with_reducible exact HK.out _ (Below.refl _ _).drew) | (with_reducible exact HK.out _ HB2.out) | (with_reducible exact HK.out _ HB3.out) | (with_reducible exact HK.out _ HB4.out) | (with_reducible exact HK.out _ HB5.out))
            (first
            | (go_at_call 23
               with_reducible refine (HL2.out _ (Below.refl _ _).drew).mono ?_
               rintro e u2 ⟨A2, c2, rfl, ho2, hg2, _⟩
               have HB2 : Hid (Below (w.heap.size + 1 + 1 + 1) u1 u2) := Lib.hid ((Below.refl (w.heap.size + 1 + 1 + 1) u1).drew.grown hg2 HX1.out.size (fun k hk => by simp [Value.ownBlock] at hk))
               have HO2 := Lib.hid ho2
               clear ho2 hg2)
            | (go_at_call 23
               with_reducible refine (rlay2 (w.heap.size + 1 + 1 + 1) A2 2 c2 (cat 0 (fun _ => 0) (layb sp 2)) dp 4 (by omega) ⟨by omega, by omega⟩ (by omega) _ HO2.out (Nat.le_trans HX1.out.size HB2.out.size)).mono ?_
               rintro e u3 ⟨A3, c3, rfl, ho3, hg3, _⟩
               have HB3 : Hid (Below (w.heap.size + 1 + 1 + 1) u1 u3) := Lib.hid (HB2.out.grown hg3 (Nat.le_trans HX1.out.size HB2.out.size) (fun k hk => HO2.out.at_ k hk))
               have HO3 := Lib.hid ho3
               clear ho3 hg3)
            | (go_at_call 23
               with_reducible refine (rlay4 (w.heap.size + 1 + 1 + 1) A3 4 c3 (cat 2 (cat 0 (fun _ => 0) (layb sp 2)) (layb dp 2)) sq 8 (by omega) ⟨by omega, by omega⟩ (by omega) _ HO3.out (Nat.le_trans HX1.out.size HB3.out.size)).mono ?_
               rintro e u4 ⟨A4, c4, rfl, ho4, hg4, _⟩
               have HB4 : Hid (Below (w.heap.size + 1 + 1 + 1) u1 u4) := Lib.hid (HB3.out.grown hg4 (Nat.le_trans HX1.out.size HB3.out.size) (fun k hk => HO3.out.at_ k hk))
               have HO4 := Lib.hid ho4
               clear ho4 hg4)
            | (go_at_call 23
               with_reducible refine (rlay4 (w.heap.size + 1 + 1 + 1) A4 8 c4 (cat 4 (cat 2 (cat 0 (fun _ => 0) (layb sp 2)) (layb dp 2)) (layb sq 4)) ak 12 (by omega) ⟨by omega, by omega⟩ (by omega) _ HO4.out (Nat.le_trans HX1.out.size HB4.out.size)).mono ?_
               rintro e u5 ⟨A5, c5, rfl, ho5, hg5, _⟩
               have HB5 : Hid (Below (w.heap.size + 1 + 1 + 1) u1 u5) := Lib.hid (HB4.out.grown hg5 (Nat.le_trans HX1.out.size HB4.out.size) (fun k hk => HO4.out.at_ k hk))
               have HO5 := Lib.hid ho5
               clear ho5 hg5))
          have HH5 : Hid (WrH w u5 s d (tcpc sp dp sq ak rest fl wi ur (.slice O on co)) 28 A5 12 c5 (b12 sp dp sq ak)) := ⟨HX1.out.keep HB5.out, HO5.out⟩
          clear HL2 HO2 HO3 HO4 HO5 HB2 HB3 HB4 HB5 HK a4 a8 hT HX1
          clear y0 y1
          obtain ⟨Q, hQ⟩ : ∃ Q : Int, Q = (on : Int) / 4 := ⟨_, rfl⟩
          have g0 : ((on : Int)).tdiv 4 = Q := by rw [Int.tdiv_eq_ediv_of_nonneg (by omega)]; omega
          have g1 : IntKind.i64.wrap Q = Q := by rw [IntKind.wrap_i64]; omega
          have g2 : IntKind.i64.wrap (5 + Q) = 5 + Q := by rw [IntKind.wrap_i64]; omega
          have g3 : IntKind.i64.wrap (16 * (5 + Q)) = 16 * (5 + Q) := by rw [IntKind.wrap_i64]; omega
          have g4 : IntKind.u8.wrap (16 * (5 + Q)) = 16 * (5 + Q) := by rw [IntKind.wrap_u8']; omega
          obtain ⟨X, hX⟩ : ∃ X : Int, X = 16 * (5 + Q) + rest := ⟨_, rfl⟩
          have g5 : IntKind.u8.wrap (16 * (5 + Q) + rest) = X := by rw [IntKind.wrap_u8']; omega
          have HXQ := Lib.hid (show X = ((5 + (on : Int) / 4) * 16 + rest) by rw [hX, hQ]; omega)
          clear hX hQ
          have a4 : u5.cell? ⟨w.heap.size + 1 + 1, 4, none⟩ = some (.int .u8 rest) := blk_cell HH5.out.box.b2 4
          have a5 : u5.cell? ⟨w.heap.size + 1 + 1, 5, none⟩ = some (.int .u8 fl) := blk_cell HH5.out.box.b2 5
          have a8 : u5.cell? ⟨w.heap.size + 1 + 1, 8, none⟩ = some (.slice O on co) := blk_cell HH5.out.box.b2 8
          go_upto_region 7 with (first
            | (at_builtin
               refine wpList_append_rd rfl (.tmp 53) (.tmp 66) _ rfl (w.heap.size + 1 + 1 + 1) 5 i0 Try.underlying23 HI0.out HZ0.out HZ1.out HZ2.out rfl (HH5.out.alloc (.cells #[.int .u8 X, .int .u8 fl] 5)).own rfl (rd_two u5 (u5.heap.size + 1) _ rfl (Nat.lt_succ_self _) X fl 5) (by omega) (Nat.le_trans HH5.out.box.size (alloc_le _ _)) ?_
               intro A6 c6 u6 hown6 hg6 _
               have HH6 := Lib.hid ((HH5.out.alloc (.cells #[.int .u8 X, .int .u8 fl] 5)).grow hown6 hg6)
               clear hown6 hg6))
          clear a4 a5 a8 g0 g1 g2 g3 g4 g5 HH5
          have a6 : u6.cell? ⟨w.heap.size + 1 + 1, 6, none⟩ = some (.int .u16 wi) := blk_cell HH6.out.box.b2 6
          have z6 : IntKind.u32.wrap wi = wi := by rw [IntKind.wrap_u32']; omega
          go_wp2_with fail
          go_at_call 23
          refine (rlay_to (w.heap.size + 1 + 1 + 1) A6 (12 + 2) c6 _ wi 2 16 rfl ⟨by omega, by omega⟩ (by omega) (by omega) u6 HH6.out.own HH6.out.box.size).mono ?_
          rintro e u8 ⟨A8, c8, rfl, ho8, hg8, _⟩
          have HH8 : Hid (WrH w u8 s d (tcpc sp dp sq ak rest fl wi ur (.slice O on co)) 28 A8 16 c8 (b16 sp dp sq ak X fl wi)) := HH6.out.grow ho8 hg8
          clear ho8 hg8 a6 z6 HH6
          rw [HXQ.out] at HH8
          clear HXQ
          have hb8 := HH8.out.box.size
          have HL9 : Hid (∀ W, Below u8.heap.size u8 W → Calls Try.prog 23 #[.slice none 0 0, .int .u32 ur, .int .i64 2] W fun e w' => ∃ A' c', e = .returned (.slice A' 2 c') ∧ Own w' u8.heap.size 5 A' 2 c' (cat 0 (fun _ => 0) (layb ur 2)) ∧ W.grownBy w' (Value.ownBlock (.slice none 0 0)) ∧ (∀ q, Value.ownBlock (.slice A' 2 c') = some q → W.heap.size ≤ q ∨ Value.ownBlock (.slice none 0 0) = some q)) := Lib.hid fun W hW =>
            rlay2 u8.heap.size none 0 0 (fun _ => 0) ur 2 (by omega) ⟨by omega, by omega⟩ (by omega) W (Own.nil_ _ _ _ _) (Nat.le_trans (Nat.le_refl _) hW.size)
          have HK : Hid (∀ W, Below u8.heap.size u8 W → W.cell? ⟨w.heap.size + 1 + 1, 7, none⟩ = some (.int .u16 ur) ∧ W.cell? ⟨w.heap.size + 1 + 1, 8, none⟩ = some (.slice O on co)) := Lib.hid fun W hW => ⟨(hW.cell (p := ⟨w.heap.size + 1 + 1, 7, none⟩) (show w.heap.size + 1 + 1 < u8.heap.size by omega)).trans (blk_cell HH8.out.box.b2 7), (hW.cell (p := ⟨w.heap.size + 1 + 1, 8, none⟩) (show w.heap.size + 1 + 1 < u8.heap.size by omega)).trans (blk_cell HH8.out.box.b2 8)⟩
          have z7 : IntKind.u32.wrap ur = ur := by rw [IntKind.wrap_u32']; omega
          go_upto_region 8 with fail
          go_region_held3 (fun w' => w'.cell? ⟨w.heap.size + 1 + 1, 7, none⟩ = some (.int .u16 ur) ∧ w'.cell? ⟨w.heap.size + 1 + 1, 8, none⟩ = some (.slice O on co)) (first | (with_reducible exact HK.out _ (Below.refl _ _)) | (with_reducible exact HK.out _ (Below.refl _ _).drew) | (with_reducible exact HK.out _ HB9.out) | (with_reducible exact HK.out _ HB10.out))
            (first
            | (go_at_call 23
               with_reducible refine (HL9.out _ (Below.refl _ _).drew).mono ?_
               rintro e u9 ⟨A9, c9, rfl, ho9, hg9, _⟩
               have HB9 : Hid (Below u8.heap.size u8 u9) := Lib.hid ((Below.refl u8.heap.size u8).drew.grown hg9 (Nat.le_refl _) (fun k hk => by simp [Value.ownBlock] at hk))
               have HO9 := Lib.hid ho9
               clear ho9 hg9)
            | (refine step_append_rd rfl (.tmp 76) (.tmp 78) _ rfl u8.heap.size 5 i0 Try.underlying23 HI0.out HZ0.out HZ1.out HZ2.out rfl HO9.out rfl (HRO.out.keep (HH8.out.box.below.trans (HB9.out.mono HH8.out.box.below.size))) (by omega) HB9.out.size ?_
               intro A10 c10 u10 hown10 hg10
               have HB10 : Hid (Below u8.heap.size u8 u10) := HB9.out.grown hg10 HB9.out.size (fun k hk => HO9.out.at_ k hk)
               have HO10 := Lib.hid hown10
               clear hown10 hg10))
          clear HL9 HK z7 HO9 HB9
          go_upto_region 10 with (first
            | (at_builtin
               refine wpList_append_rd rfl (.tmp 80) (.tmp 81) _ rfl u8.heap.size 5 i0 Try.underlying23 HI0.out HZ0.out HZ1.out HZ2.out rfl HO10.out rfl (HR.out.keep (HH8.out.box.below.trans (HB10.out.mono HH8.out.box.below.size))) (by omega) HB10.out.size ?_
               intro A11 c11 u11 hown11 hg11 _
               have HB11 : Hid (Below u8.heap.size u8 u11) := HB10.out.grown hg11 HB10.out.size (fun k hk => HO10.out.at_ k hk)
               have HT11 : Hid (Own u11 u8.heap.size 5 A11 (2 + on + n) c11 (btl ur on fo f)) := hown11
               clear hown11 hg11))
          have HAP := Lib.hid (HH8.out.own.apart HT11.out)
          have HH11 := Lib.hid (HH8.out.step HB11.out)
          clear HO10 HB10 HB11 HH8 hb8
          go_upto_region 11 with (first
            | (at_builtin
               refine wpList_append_rd rfl (.tmp 83) (.tmp 84) _ rfl u11.heap.size 5 i0 Try.underlying23 HI0.out HZ0.out HZ1.out HZ2.out (n := 0) (f := (fun _ => 0)) rfl (Own.fresh _ _ _ (by first | rfl | simp) (Nat.le_refl _) 5 _) rfl (HH11.out.alloc (.cells #[] 5)).own.rd (by omega) (alloc_le _ _) ?_
               intro A12 c12 u12 hown12 hg12 _
               have HB12 : Hid (Below u11.heap.size u11 u12) := (below_alloc _ _).grown hg12 (alloc_le _ _) (by intro k hk; simp [Value.ownBlock] at hk; omega)
               have HO12 := Lib.hid hown12
               clear hown12 hg12)
            | (at_builtin
               refine wpList_append_rd rfl (.tmp 85) (.tmp 86) _ rfl u11.heap.size 5 i0 Try.underlying23 HI0.out HZ0.out HZ1.out HZ2.out rfl (HO12.out.alloc (.cells #[.int .u8 0, .int .u8 0] 5)) rfl (rd_two u12 (u12.heap.size + 1) _ rfl (Nat.lt_succ_self _) 0 0 5) (by omega) (Nat.le_trans HB12.out.size (alloc_le _ _)) ?_
               intro A13 c13 u13 hown13 hg13 _
               have HB13 : Hid (Below u11.heap.size u11 u13) := (HB12.out.alloc HB12.out.size (.cells #[.int .u8 0, .int .u8 0] 5)).grown hg13 (Nat.le_trans HB12.out.size (alloc_le _ _)) (fun k hk => (HO12.out.alloc (.cells #[.int .u8 0, .int .u8 0] 5)).at_ k hk)
               have HO13 := Lib.hid hown13
               clear hown13 hg13)
            | (at_builtin
               refine wpList_append_rd rfl (.tmp 87) (.tmp 88) _ rfl u11.heap.size 5 i0 Try.underlying23 HI0.out HZ0.out HZ1.out HZ2.out rfl HO13.out rfl (HT11.out.below HB13.out).rd (by omega) HB13.out.size ?_
               intro A14 c14 u14 hown14 hg14 _
               have HB14 : Hid (Below u11.heap.size u11 u14) := HB13.out.grown hg14 HB13.out.size (fun k hk => HO13.out.at_ k hk)
               have HO14 := Lib.hid hown14
               clear hown14 hg14))
          have HH14 := Lib.hid (HH11.out.step HB14.out)
          have HT14 := Lib.hid (HT11.out.below HB14.out)
          clear HO12 HO13 HB12 HB13 HB14 HH11 HT11
          have HTB : Hid (Byt (tcpB sp dp sq ak on rest fl wi 0 ur fo f)) := cat_byt 20 (tcpH_byt h1 h2 h3 h4 (by omega) ⟨h5.1, by omega⟩ h6 h7 ⟨by omega, by omega⟩ h8) (cat_byt on HFO.out HF.out)
          obtain ⟨z, hz⟩ : ∃ z, z = 0 + 16 + 2 + (2 + on + n) := ⟨_, rfl⟩
          rw [← hz] at HO14 ⊢
          have hzM : z = (20 + on + n) := by omega
          clear hz
          subst hzM
          have HZO : Hid (Own u14 u11.heap.size 5 A14 (20 + on + n) c14 (tcpB sp dp sq ak on rest fl wi 0 ur fo f)) := Lib.hid (HO14.out.same fun k hk => by
            have q := tcp_told (on := on) (n := n) (rest := rest) (fl := fl) (su := 0) fo f h1 h2 h3 h4 h7 h8 (p := two 0 0) rfl rfl k (by omega)
            rw [cat_zero]
            exact q)
          clear HO14
          have HSO := Lib.hid (right_any v6 s d HS.out HD.out 6 (by omega) (by omega) A14 (20 + on + n) c14 _ HTB.out (by omega) u14 HZO.out.rd)
          have hcb := rgt_bd HTB.out (psq_bd v6 HS.out HD.out (pr := 6) (by omega) (by omega) (20 + on + n)) (20 + on + n)
          obtain ⟨C, hC⟩ : ∃ C, C = rgt (psq v6 s d 6 (20 + on + n)) (tcpB sp dp sq ak on rest fl wi 0 ur fo f) (20 + on + n) := ⟨_, rfl⟩
          rw [← hC] at HSO hcb
          have HCC := Lib.hid hC
          clear hC HTB
          have zC : IntKind.u32.wrap C = C := by rw [IntKind.wrap_u32']; omega
          go_wp2_with (first
            | (refine wpList_load_roww rfl 22 (.tmp 6) rfl w.heap.size rfl 22 (arr16 s) (0, 0) _ HH14.out.box.b0 Try.underlying22 rfl (by kernel_rfl) ?_)
            | (refine wpList_load_roww rfl 22 (.tmp 7) rfl (w.heap.size + 1) rfl 22 (arr16 d) (0, 0) _ HH14.out.box.b1 Try.underlying22 rfl (by kernel_rfl) ?_)
            | (go_at_call 21; refine HSO.out.mono ?_; rintro e u15 ⟨rfl, hb15⟩; have HH15 := Lib.hid (HH14.out.step hb15); have HT15 := Lib.hid (HT14.out.below hb15); clear hb15))
          clear HSO HZO HH14 HT14
          go_at_call 23
          refine (rlay_to (w.heap.size + 1 + 1 + 1) A8 16 c8 _ C 2 18 rfl ⟨by omega, by omega⟩ (by omega) (by omega) u15 HH15.out.own HH15.out.box.size).mono ?_
          rintro e u16 ⟨A16, c16, rfl, ho16, hg16, _⟩
          have HH16 := Lib.hid (HH15.out.grow ho16 hg16)
          have HT16 := Lib.hid (HT15.out.grown hg16 (fun q hq hr => HAP.out q hr hq))
          clear ho16 hg16 zC HH15 HT15
          go_wp2_with (first
            | (at_builtin
               refine wpList_append_rd rfl (.tmp 97) (.tmp 98) _ rfl (w.heap.size + 1 + 1 + 1) 5 i0 Try.underlying23 HI0.out HZ0.out HZ1.out HZ2.out rfl HH16.out.own rfl HT16.out.rd (by omega) HH16.out.box.size ?_
               intro A17 c17 u17 hown17 hg17 _
               have HH17 := Lib.hid (HH16.out.grow hown17 hg17)
               clear hown17 hg17))
          go_ret2
          obtain ⟨z, hz⟩ : ∃ z, z = 18 + (2 + on + n) := ⟨_, rfl⟩
          rw [← hz] at HH17 ⊢
          have hzM : z = (20 + on + n) := by omega
          clear hz
          subst hzM
          obtain ⟨l0, l1⟩ := lay_two hcb
          refine .inr ⟨by first | rfl | exact hRe, A17, c17, rfl, ?_, HH17.out.box.below⟩
          rw [← HCC.out]
          exact (HH17.out.own.le (by omega)).same fun k hk => tcp_told fo f h1 h2 h3 h4 h7 h8 l0 l1 k (by omega)
    · have cB' : (((on % 4 : Nat) : Int) != 0) = true := by simp; omega
      have hRe : R = 5 := HRE.out.trans (by unfold tcpX; rw [if_pos (.inr (.inl cB))])
      go_wp2_with fail
      go_ret2
      refine .inl ⟨by first | (rw [hRe]; decide) | decide, none, 0, by first | rfl | (rw [hRe] <;> rfl), Own.nil_ _ _ _ _, HX1.out.below⟩
end Go.Proofs.Ytmcapemlicjfjaa
