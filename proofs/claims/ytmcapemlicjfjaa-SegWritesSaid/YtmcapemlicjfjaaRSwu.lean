/- The document's WriteUDP. -/
import Derived.Test.YtmcapemlicjfjaaRSw
namespace Go.Proofs.Ytmcapemlicjfjaa
open Go.RowKit
theorem Rd.grown {w w' : World} {n c : Nat} {A : Option Addr} {f : Nat → Int} {row : Option Nat} (h : Rd w w.heap.size A n f) (hg : w.grownBy w' row) (hne : ∀ q, Value.ownBlock (.slice A n c) = some q → row ≠ some q) : Rd w' w'.heap.size A n f := by
  rcases h with h | ⟨b, off, rfl, hlt, hc⟩
  · exact .inl h
  · exact .inr ⟨b, off, rfl, Nat.lt_of_lt_of_le hlt hg.size, fun k hk => hg.cell (hc k hk) (fun e => hne b rfl e.symm)⟩
theorem arr16_rng {w : World} {g : Nat} {f : Nat → Int} {t : TypeId} (h : w.heap[g]? = some (.cells (arr16 f) t (0, 0))) : w.rangeAt g 0 (arr16 f).toList := fun j v hv => by
  rw [Nat.zero_add, blk_cell h j, ← Array.getElem?_toList, hv]
set_option maxRecDepth 100000 in
set_option maxHeartbeats 4000000 in
theorem rwriteU_any (v6 : Bool) (s d : Nat → Int) (hs : Byt s) (hd : Byt d) (sp dp : Int) (ns : Bool) (A : Option Addr) (n c : Nat) (f : Nat → Int)
    (h1 : 0 ≤ sp ∧ sp ≤ 65535) (h2 : 0 ≤ dp ∧ dp ≤ 65535) (hf : Byt f) (hn : n ≤ 4000) (w : World) (hr : Rd w w.heap.size A n f) :
    Calls Try.prog 17 #[.bool v6, .agg (arr16 s), .agg (arr16 d), .agg (udpc sp dp ns), .slice A n c] w
      (WrR w.heap.size 5 (udpX v6 ns n) (8 + n) (udpB sp dp (8 + (n : Int)) (udpS ns (psq v6 s d 17 (8 + n)) (udpB sp dp (8 + (n : Int)) 0 f) (8 + n)) f) w) := by
  obtain ⟨i0, hi0, hz0, hz1, hz2⟩ := info_parts Try.info5
  have HI0 := Lib.hid hi0
  have HZ0 := Lib.hid hz0
  have HZ1 := Lib.hid hz1
  have HZ2 := Lib.hid hz2
  have HR := Lib.hid hr
  have HF := Lib.hid hf
  have HS := Lib.hid hs
  have HD := Lib.hid hd
  clear hi0 hz0 hz1 hz2 hr hf hs hd
  obtain ⟨R, hR⟩ : ∃ R, R = udpX v6 ns n := ⟨_, rfl⟩
  rw [← hR]
  have HRE := Lib.hid hR
  clear hR
  have HX1 := Lib.hid (Box3.start w s d (udpc sp dp ns) 34)
  go_enter Try.func17, Try.ntmps17
  go_upto_region 1 with fail
  change Code.wp _ _ _ _ (((w.alloc (.cells (arr16 s) 22)).alloc (.cells (arr16 d) 22)).alloc (.cells (udpc sp dp ns) 34))
  generalize ((w.alloc (.cells (arr16 s) 22)).alloc (.cells (arr16 d) 22)).alloc (.cells (udpc sp dp ns) 34) = u1 at *
  have a2 : u1.cell? ⟨w.heap.size + 1 + 1, 2, none⟩ = some (.bool ns) := blk_cell HX1.out.b2 2
  cases ns
  · cases v6
    · have HOK : Hid (¬ (false && false) = true) := Lib.hid (by simp)
      go_upto_if 18 with fail
      go_upto_if 22 with fail
      by_cases cL : 1660 < (8 + n)
      · have cL' : 8 + (n : Int) > 1660 := by omega
        have hRe : R = 3 := HRE.out.trans (by unfold udpX; rw [if_neg HOK.out, if_pos (by omega)])
        go_wp2_with fail
        go_ret2
        refine .inl ⟨by first | (rw [hRe]; decide) | decide, none, 0, by first | rfl | (rw [hRe] <;> rfl), Own.nil_ _ _ _ _, HX1.out.below⟩
      · have hm : (8 + n) ≤ 1660 := by omega
        have hRe : R = 0 := HRE.out.trans (by unfold udpX; rw [if_neg HOK.out, if_neg (by omega)])
        have cL' : 8 + (n : Int) ≤ 1660 := by omega
        have y0 : IntKind.u32.wrap sp = sp := by rw [IntKind.wrap_u32']; omega
        have y1 : IntKind.u32.wrap dp = dp := by rw [IntKind.wrap_u32']; omega
        have y3 : IntKind.i64.wrap (8 + (n : Int)) = 8 + (n : Int) := by rw [IntKind.wrap_i64]; omega
        have y2 : IntKind.u32.wrap (8 + (n : Int)) = 8 + (n : Int) := by rw [IntKind.wrap_u32']; omega
        have HL2 : Hid (∀ W, Below (w.heap.size + 1 + 1 + 1) u1 W → Calls Try.prog 23 #[.slice none 0 0, .int .u32 sp, .int .i64 2] W fun e w' => ∃ A' c', e = .returned (.slice A' 2 c') ∧ Own w' (w.heap.size + 1 + 1 + 1) 5 A' 2 c' (cat 0 (fun _ => 0) (layb sp 2)) ∧ W.grownBy w' (Value.ownBlock (.slice none 0 0)) ∧ (∀ q, Value.ownBlock (.slice A' 2 c') = some q → W.heap.size ≤ q ∨ Value.ownBlock (.slice none 0 0) = some q)) := Lib.hid fun W hW =>
          rlay2 (w.heap.size + 1 + 1 + 1) none 0 0 (fun _ => 0) sp 2 (by omega) ⟨by omega, by omega⟩ (by omega) W (Own.nil_ _ _ _ _) (Nat.le_trans HX1.out.size hW.size)
        have HK : Hid (∀ W, Below (w.heap.size + 1 + 1 + 1) u1 W → W.cell? ⟨w.heap.size + 1 + 1, 0, none⟩ = some (.int .u16 sp) ∧ W.cell? ⟨w.heap.size + 1 + 1, 1, none⟩ = some (.int .u16 dp)) := Lib.hid fun W hW => ⟨(hW.cell (p := ⟨w.heap.size + 1 + 1, 0, none⟩) (show w.heap.size + 1 + 1 < (w.heap.size + 1 + 1 + 1) by omega)).trans (blk_cell HX1.out.b2 0), (hW.cell (p := ⟨w.heap.size + 1 + 1, 1, none⟩) (show w.heap.size + 1 + 1 < (w.heap.size + 1 + 1 + 1) by omega)).trans (blk_cell HX1.out.b2 1)⟩
        go_upto_region 5 with fail
        go_region_held3 (fun w' => w'.cell? ⟨w.heap.size + 1 + 1, 0, none⟩ = some (.int .u16 sp) ∧ w'.cell? ⟨w.heap.size + 1 + 1, 1, none⟩ = some (.int .u16 dp)) (first | (with_reducible exact HK.out _ (Below.refl _ _)) | (with_reducible exact HK.out _ (Below.refl _ _).drew) | (with_reducible exact HK.out _ HB2.out) | (with_reducible exact HK.out _ HB3.out) | (with_reducible exact HK.out _ HB4.out))
          (first
          | (go_at_call 23
             with_reducible refine (HL2.out _ (Below.refl _ _).drew).mono ?_
             rintro e u2 ⟨A2, c2, rfl, ho2, hg2, _⟩
             have HB2 : Hid (Below (w.heap.size + 1 + 1 + 1) u1 u2) := Lib.hid ((Below.refl (w.heap.size + 1 + 1 + 1) u1).drew.grown hg2 HX1.out.size (fun k hk => by simp [Value.ownBlock] at hk))
             have HO2 := Lib.hid ho2
             clear ho2 hg2)
          | (go_at_call 23
             with_reducible refine (rlay2 (w.heap.size + 1 + 1 + 1) A2 2 c2 (cat 0 (fun _ => 0) (layb sp 2)) dp 4 (by omega) ⟨by omega, by omega⟩ (by omega) _ HO2.out (Nat.le_trans HX1.out.size HB2.out.size)).mono ?_
             rintro e u3 ⟨A3, c3, rfl, ho3, hg3, _⟩
             have HB3 : Hid (Below (w.heap.size + 1 + 1 + 1) u1 u3) := Lib.hid (HB2.out.grown hg3 (Nat.le_trans HX1.out.size HB2.out.size) (fun k hk => HO2.out.at_ k hk))
             have HO3 := Lib.hid ho3
             clear ho3 hg3)
          | (go_at_call 23
             with_reducible refine (rlay2 (w.heap.size + 1 + 1 + 1) A3 4 c3 (cat 2 (cat 0 (fun _ => 0) (layb sp 2)) (layb dp 2)) (8 + (n : Int)) 6 (by omega) ⟨by omega, by omega⟩ (by omega) _ HO3.out (Nat.le_trans HX1.out.size HB3.out.size)).mono ?_
             rintro e u4 ⟨A4, c4, rfl, ho4, hg4, _⟩
             have HB4 : Hid (Below (w.heap.size + 1 + 1 + 1) u1 u4) := Lib.hid (HB3.out.grown hg4 (Nat.le_trans HX1.out.size HB3.out.size) (fun k hk => HO3.out.at_ k hk))
             have HO4 := Lib.hid ho4
             clear ho4 hg4))
        have HH5 : Hid (WrH w u4 s d (udpc sp dp false) 34 A4 6 c4 (h6 sp dp (8 + (n : Int)))) := ⟨HX1.out.keep HB4.out, HO4.out⟩
        clear HL2 HO2 HO3 HO4 HB2 HB3 HB4 HK a2 HX1 y0 y1 y2 y3
        have b2 : u4.cell? ⟨w.heap.size + 1 + 1, 2, none⟩ = some (.bool false) := blk_cell HH5.out.box.b2 2
        go_upto_region 8 with fail
        clear b2
        have HTB : Hid (Byt (udpB sp dp (8 + (n : Int)) 0 f)) := cat_byt 8 (udpH_byt h1 h2 (by omega) ⟨by omega, by omega⟩) HF.out
        obtain ⟨ls, hls⟩ : ∃ ls, ls = (arr16 s).toList := ⟨_, rfl⟩
        obtain ⟨ld, hld⟩ : ∃ ld, ld = (arr16 d).toList := ⟨_, rfl⟩
        have hls16 : (Try.prog.info? 22).map (·.size) = some ls.length := by rw [hls]; kernel_rfl
        have hld16 : (Try.prog.info? 22).map (·.size) = some ld.length := by rw [hld]; kernel_rfl
        have hund := Try.underlying22
        have hcb := rgt_bd HTB.out (psq_bd false HS.out HD.out (pr := 17) (by omega) (by omega) (8 + n)) (8 + n)
        have HSO : Hid (∀ (A : Option Addr) (m c : Nat) (W : World), m = (8 + n) → Rd W W.heap.size A (8 + n) (udpB sp dp (8 + (n : Int)) 0 f) → Calls Try.prog 21 #[.bool false, .agg ls.toArray, .agg ld.toArray, .int .u8 17, .slice A m c] W fun e w' => e = .returned (.int .u16 (rgt (psq false s d 17 (8 + n)) (udpB sp dp (8 + (n : Int)) 0 f) (8 + n))) ∧ Below W.heap.size W w') := Lib.hid fun A m c W hm ho => by
          subst hm
          have h := right_any false s d HS.out HD.out 17 (by omega) (by omega) A (8 + n) c _ HTB.out (by omega) W ho
          rw [hls, hld]
          exact h
        obtain ⟨C, hC⟩ : ∃ C, C = rgt (psq false s d 17 (8 + n)) (udpB sp dp (8 + (n : Int)) 0 f) (8 + n) := ⟨_, rfl⟩
        rw [← hC] at HSO hcb
        have HCC := Lib.hid hC
        clear hC
        have HK : Hid (∀ W, Below u4.heap.size u4 W → W.rangeAt w.heap.size 0 ls ∧ W.rangeAt (w.heap.size + 1) 0 ld) := Lib.hid fun W hW => by
          rw [hls, hld]
          exact ⟨arr16_rng ((hW.block _ (lt_heap HH5.out.box.b0)).trans HH5.out.box.b0), arr16_rng ((hW.block _ (lt_heap HH5.out.box.b1)).trans HH5.out.box.b1)⟩
        clear hls hld
        have Ka : Hid (Below u4.heap.size u4 (u4.drew.alloc (.cells #[] 5)) ∧ Own (u4.drew.alloc (.cells #[] 5)) u4.heap.size 5 (some ⟨u4.heap.size, 0, none⟩) 0 0 (fun _ => 0)) := ⟨(Below.refl _ _).drew.alloc (Nat.le_refl _) _, Own.fresh u4.drew _ _ rfl (Nat.le_refl _) _ _⟩
        have Kb : Hid (Below u4.heap.size u4 ((u4.drew.alloc (.cells #[] 5)).alloc (.cells #[.int .u8 0, .int .u8 0] 5)) ∧ Own ((u4.drew.alloc (.cells #[] 5)).alloc (.cells #[.int .u8 0, .int .u8 0] 5)) u4.heap.size 5 (some ⟨u4.heap.size, 0, none⟩) 0 0 (fun _ => 0) ∧ Rd ((u4.drew.alloc (.cells #[] 5)).alloc (.cells #[.int .u8 0, .int .u8 0] 5)) ((u4.drew.alloc (.cells #[] 5)).alloc (.cells #[.int .u8 0, .int .u8 0] 5)).heap.size (some ⟨u4.heap.size + 1, 0, none⟩) 2 (two 0 0)) := ⟨Ka.out.1.alloc Ka.out.1.size _, Ka.out.2.alloc _, rd_two _ _ _ (by simp) (by simp) 0 0 5⟩
        have Kc : Hid (Below u4.heap.size u4 ((u4.drew.alloc (.cells #[.int .u8 0, .int .u8 0] 5)).alloc (.cells #[] 5)) ∧ Own ((u4.drew.alloc (.cells #[.int .u8 0, .int .u8 0] 5)).alloc (.cells #[] 5)) u4.heap.size 5 (some ⟨u4.heap.size + 1, 0, none⟩) 0 0 (fun _ => 0) ∧ Rd ((u4.drew.alloc (.cells #[.int .u8 0, .int .u8 0] 5)).alloc (.cells #[] 5)) ((u4.drew.alloc (.cells #[.int .u8 0, .int .u8 0] 5)).alloc (.cells #[] 5)).heap.size (some ⟨u4.heap.size, 0, none⟩) 2 (two 0 0)) := ⟨((Below.refl _ _).drew.alloc (Nat.le_refl _) _).alloc (alloc_le u4.drew _) _, Own.fresh (u4.drew.alloc (.cells #[.int .u8 0, .int .u8 0] 5)) _ _ (by simp) (alloc_le u4.drew _) _ _, ((rd_two u4.drew (u4.drew.heap.size + 1) u4.heap.size rfl (Nat.lt_succ_self _) 0 0 5).keep ((below_alloc _ _).mono (by simp))).more (by simp)⟩
        have Ga : Hid (∀ W', (u4.drew.alloc (.cells #[] 5)).grownBy W' (Value.ownBlock (.slice (some ⟨u4.heap.size, 0, none⟩) 0 0)) → Below u4.heap.size u4 W') := Lib.hid fun W' hg => Ka.out.1.grown hg Ka.out.1.size (fun k hk => by simp [Value.ownBlock] at hk; omega)
        have Gb : Hid (∀ W', ((u4.drew.alloc (.cells #[] 5)).alloc (.cells #[.int .u8 0, .int .u8 0] 5)).grownBy W' (Value.ownBlock (.slice (some ⟨u4.heap.size, 0, none⟩) 0 0)) → Below u4.heap.size u4 W' ∧ Rd W' W'.heap.size (some ⟨u4.heap.size + 1, 0, none⟩) 2 (two 0 0)) := Lib.hid fun W' hg => ⟨Kb.out.1.grown hg Kb.out.1.size (fun k hk => by simp [Value.ownBlock] at hk; omega), Kb.out.2.2.grown (c := 2) hg (fun q hq hr => by simp [Value.ownBlock] at hq hr; omega)⟩
        have Gc : Hid (∀ W', ((u4.drew.alloc (.cells #[.int .u8 0, .int .u8 0] 5)).alloc (.cells #[] 5)).grownBy W' (Value.ownBlock (.slice (some ⟨u4.heap.size + 1, 0, none⟩) 0 0)) → Below u4.heap.size u4 W' ∧ Rd W' W'.heap.size (some ⟨u4.heap.size, 0, none⟩) 2 (two 0 0)) := Lib.hid fun W' hg => ⟨Kc.out.1.grown hg Kc.out.1.size (fun k hk => by simp [Value.ownBlock] at hk; omega), Kc.out.2.2.grown (c := 2) hg (fun q hq hr => by simp [Value.ownBlock] at hq hr; omega)⟩
        have HEAD : Hid (∀ W, Below u4.heap.size u4 W → Rd W W.heap.size A4 6 (h6 sp dp (8 + (n : Int)))) := Lib.hid fun W hW => (HH5.out.own.below hW).rd
        have PAY : Hid (∀ W, Below u4.heap.size u4 W → Rd W w.heap.size A n f) := Lib.hid fun W hW => HR.out.keep (HH5.out.box.below.trans (hW.mono HH5.out.box.below.size))
        go_cut [13] from 39 to 49 (fun x wx => x = .int .u16 C ∧ Hid (Below u4.heap.size u4 wx))
        case first =>
          refine wp_region_held_drew (S := fun w' => w'.rangeAt w.heap.size 0 ls ∧ w'.rangeAt (w.heap.size + 1) 0 ld) (by kernel_rfl) (HK.out _ (Below.refl _ _).drew) (fun hHeld => ?_)
          refine wpAnyH_take (i := 0) (oi := { dst := some 39, op := Op.move (Operand.tmp 0), type := 4, pos := "ref.go:109", after := #[], guard := none }) (v := .bool false) rfl (by kernel_rfl) (by kernel_rfl) (by kernel_rfl) (fun _ _ _ h => h) (Or.inl ⟨by rfl, ?_⟩) hHeld ?_
          · intro w hSw
            go_simp
          simp only [Act.put, List.setIfInBounds_toArray, List.set_cons_zero, List.set_cons_succ]
          refine wpAnyH_take (i := 1) (oi := { dst := some 40, op := Op.load 22 (Operand.tmp 6), type := 22, pos := "ref.go:109", after := #[], guard := none }) (v := _) rfl (by kernel_rfl) (by kernel_rfl) (by kernel_rfl) (fun _ _ _ h => h) (yieldsIf_load_mid (by rfl) _ _ rfl _ _ rfl ls _ (fun _ h => h.1) hund rfl hls16) hHeld ?_
          simp only [Act.put, List.setIfInBounds_toArray, List.set_cons_zero, List.set_cons_succ]
          refine wpAnyH_take (i := 2) (oi := { dst := some 41, op := Op.load 22 (Operand.tmp 7), type := 22, pos := "ref.go:109", after := #[], guard := none }) (v := _) rfl (by kernel_rfl) (by kernel_rfl) (by kernel_rfl) (fun _ _ _ h => h) (yieldsIf_load_mid (by rfl) _ _ rfl _ _ rfl ld _ (fun _ h => h.2) hund rfl hld16) hHeld ?_
          simp only [Act.put, List.setIfInBounds_toArray, List.set_cons_zero, List.set_cons_succ]
          refine wpAnyH_take (i := 4) (oi := { dst := some 43, op := Op.move (Operand.tmp 12), type := 23, pos := "ref.go:109", after := #[], guard := none }) (v := .slice A4 6 c4) rfl (by kernel_rfl) (by kernel_rfl) (by kernel_rfl) (fun _ _ _ h => h) (Or.inl ⟨by rfl, ?_⟩) hHeld ?_
          · intro w hSw
            go_simp
          simp only [Act.put, List.setIfInBounds_toArray, List.set_cons_zero, List.set_cons_succ]
          refine wpAnyH_take (i := 8) (oi := { dst := some 47, op := Op.move (Operand.tmp 4), type := 23, pos := "ref.go:109", after := #[], guard := none }) (v := .slice A n c) rfl (by kernel_rfl) (by kernel_rfl) (by kernel_rfl) (fun _ _ _ h => h) (Or.inl ⟨by rfl, ?_⟩) hHeld ?_
          · intro w hSw
            go_simp
          simp only [Act.put, List.setIfInBounds_toArray, List.set_cons_zero, List.set_cons_succ]
          refine wpAnyH_ready (rs := [3, 6]) (by kernel_rfl) (by simp) ?_
          refine AllReadyH.cons (o := { dst := some 42, op := Op.buildSlice 23 0 #[], type := 23, pos := "ref.go:109", after := #[], guard := none }) rfl (fun K hK => ?_) ?_
          · go_simp
            refine hK.out _ _ (HK.out _ Ka.out.1) (fun hHeld => ?_)
            clear hK K
            try simp only [Act.put, List.setIfInBounds_toArray, List.set_cons_zero, List.set_cons_succ]
            refine wpAnyH_ready (rs := [5, 6]) (by kernel_rfl) (by simp) ?_
            refine AllReadyH.cons (o := { dst := some 44, op := Op.call { callee := Callee.builtin Builtin.append, args := #[Operand.tmp 42, Operand.tmp 43], argTypes := #[23, 23] }, type := 23, pos := "ref.go:109", after := #[{ on := 3, ground := Ground.data }, { on := 4, ground := Ground.data }], guard := none }) rfl (fun K hK => ?_) ?_
            · refine step_append_rd rfl (.tmp 42) (.tmp 43) _ rfl u4.heap.size 5 i0 Try.underlying23 HI0.out HZ0.out HZ1.out HZ2.out (n := 0) (f := (fun _ => 0)) rfl Ka.out.2 rfl (HEAD.out _ Ka.out.1) (by omega) Ka.out.1.size ?_
              intro A44 c44 u44 hown44 hg44
              have HB44 : Hid (Below u4.heap.size u4 u44) := Ga.out _ hg44
              have HO44 := Lib.hid hown44
              clear hown44 hg44
              refine hK.out _ _ (HK.out _ HB44.out) (fun hHeld => ?_)
              clear hK K
              try simp only [Act.put, List.setIfInBounds_toArray, List.set_cons_zero, List.set_cons_succ]
              refine wpAnyH_ready (rs := [6]) (by kernel_rfl) (by simp) ?_
              refine AllReadyH.cons (o := { dst := some 45, op := Op.buildSlice 23 2 #[(0, Operand.const (Value.int IntKind.u8 0)), (1, Operand.const (Value.int IntKind.u8 0))], type := 23, pos := "ref.go:109", after := #[], guard := none }) rfl (fun K hK => ?_) ?_
              · go_simp
                refine hK.out _ _ (HK.out _ (HB44.out.alloc HB44.out.size _)) (fun hHeld => ?_)
                clear hK K
                try simp only [Act.put, List.setIfInBounds_toArray, List.set_cons_zero, List.set_cons_succ]
                refine wpAnyH_ready (rs := [7]) (by kernel_rfl) (by simp) ?_
                refine AllReadyH.cons (o := { dst := some 46, op := Op.call { callee := Callee.builtin Builtin.append, args := #[Operand.tmp 44, Operand.tmp 45], argTypes := #[23, 23] }, type := 23, pos := "ref.go:109", after := #[{ on := 5, ground := Ground.data }, { on := 6, ground := Ground.data }, { on := 5, ground := Ground.chain }], guard := none }) rfl (fun K hK => ?_) ?_
                · refine step_append_rd rfl (.tmp 44) (.tmp 45) _ rfl u4.heap.size 5 i0 Try.underlying23 HI0.out HZ0.out HZ1.out HZ2.out rfl (HO44.out.alloc (.cells #[.int .u8 0, .int .u8 0] 5)) rfl (rd_two u44 (u44.heap.size + 1) _ rfl (Nat.lt_succ_self _) 0 0 5) (by omega) (HB44.out.alloc HB44.out.size (.cells #[.int .u8 0, .int .u8 0] 5)).size ?_
                  intro A46 c46 u46 hown46 hg46
                  have HB46 : Hid (Below u4.heap.size u4 u46) := (HB44.out.alloc HB44.out.size (.cells #[.int .u8 0, .int .u8 0] 5)).grown hg46 (HB44.out.alloc HB44.out.size (.cells #[.int .u8 0, .int .u8 0] 5)).size (fun k hk => HO44.out.at_ k hk)
                  have HO46 := Lib.hid hown46
                  clear hown46 hg46
                  refine hK.out _ _ (HK.out _ HB46.out) (fun hHeld => ?_)
                  clear hK K
                  try simp only [Act.put, List.setIfInBounds_toArray, List.set_cons_zero, List.set_cons_succ]
                  refine wpAnyH_ready (rs := [9]) (by kernel_rfl) (by simp) ?_
                  refine AllReadyH.cons (o := { dst := some 48, op := Op.call { callee := Callee.builtin Builtin.append, args := #[Operand.tmp 46, Operand.tmp 47], argTypes := #[23, 23] }, type := 23, pos := "ref.go:109", after := #[{ on := 7, ground := Ground.data }, { on := 8, ground := Ground.data }, { on := 7, ground := Ground.chain }], guard := none }) rfl (fun K hK => ?_) ?_
                  · refine step_append_rd rfl (.tmp 46) (.tmp 47) _ rfl u4.heap.size 5 i0 Try.underlying23 HI0.out HZ0.out HZ1.out HZ2.out rfl HO46.out rfl (PAY.out _ HB46.out) (by omega) HB46.out.size ?_
                    intro A48 c48 u48 hown48 hg48
                    have HB48 : Hid (Below u4.heap.size u4 u48) := HB46.out.grown hg48 HB46.out.size (fun k hk => HO46.out.at_ k hk)
                    have HO48 : Hid (Rd u48 u48.heap.size A48 (8 + n) (udpB sp dp (8 + (n : Int)) 0 f)) := Lib.hid (by
                      have q := hown48.rd
                      rw [show 0 + 6 + 2 + n = (8 + n) by omega] at q
                      exact q.same fun k hk => by
                        have t := udp_told (n := n) (su := 0) f h1 h2 (by omega : 0 ≤ (8 + (n : Int)) ∧ (8 + (n : Int)) ≤ 65535) (p := two 0 0) rfl rfl k hk
                        rw [cat_zero]
                        exact t)
                    clear hown48 hg48
                    refine hK.out _ _ (HK.out _ HB48.out) (fun hHeld => ?_)
                    clear hK K
                    try simp only [Act.put, List.setIfInBounds_toArray, List.set_cons_zero, List.set_cons_succ]
                    refine wpAnyH_ready (rs := [10]) (by kernel_rfl) (by simp) ?_
                    refine AllReadyH.cons (o := { dst := some 49, op := Op.call { callee := Callee.value (Operand.func 21), args := #[Operand.tmp 39, Operand.tmp 40, Operand.tmp 41, Operand.const (Value.int IntKind.u8 17), Operand.tmp 48], argTypes := #[4, 22, 22, 5, 23] }, type := 25, pos := "ref.go:109", after := #[{ on := 0, ground := Ground.data }, { on := 1, ground := Ground.data }, { on := 2, ground := Ground.data }, { on := 9, ground := Ground.data }, { on := 9, ground := Ground.chain }], guard := none }) rfl (fun K hK => ?_) ?_
                    · go_simp
                      go_at_call 21
                      refine (HSO.out _ _ _ _ (by omega) HO48.out).mono ?_
                      rintro e u49 ⟨rfl, hb49⟩
                      have HB49 : Hid (Below u4.heap.size u4 u49) := HB48.out.trans (hb49.mono HB48.out.size)
                      clear hb49
                      try go_wp2_with fail
                      refine hK.out _ _ (HK.out _ HB49.out) (fun hHeld => ?_)
                      clear hK K
                      try simp only [Act.put, List.setIfInBounds_toArray, List.set_cons_zero, List.set_cons_succ]
                      refine wpAnyH_ready (rs := [11]) (by kernel_rfl) (by simp) ?_
                      refine AllReadyH.cons (o := { dst := some 13, op := Op.assign (Operand.tmp 49), type := 25, pos := "ref.go:109", after := #[{ on := 10, ground := Ground.data }, { on := 10, ground := Ground.chain }, { on := 0, ground := Ground.phase }, { on := 1, ground := Ground.phase }, { on := 2, ground := Ground.phase }, { on := 3, ground := Ground.phase }, { on := 4, ground := Ground.phase }, { on := 5, ground := Ground.phase }, { on := 6, ground := Ground.phase }, { on := 7, ground := Ground.phase }, { on := 8, ground := Ground.phase }, { on := 9, ground := Ground.phase }, { on := 10, ground := Ground.phase }], guard := none }) rfl (fun K hK => ?_) ?_
                      · go_simp
                        refine hK.out _ _ (HK.out _ HB49.out) (fun hHeld => ?_)
                        clear hK K
                        try simp only [Act.put, List.setIfInBounds_toArray, List.set_cons_zero, List.set_cons_succ]
                        refine wpAnyH_done (by kernel_rfl) ?_ _
                        go_wp2_with fail
                        go_meet
                        exact ⟨rfl, HB49⟩
                      exact AllReadyH.nil
                    exact AllReadyH.nil
                  exact AllReadyH.nil
                exact AllReadyH.nil
              exact AllReadyH.nil
            refine AllReadyH.cons (o := { dst := some 45, op := Op.buildSlice 23 2 #[(0, Operand.const (Value.int IntKind.u8 0)), (1, Operand.const (Value.int IntKind.u8 0))], type := 23, pos := "ref.go:109", after := #[], guard := none }) rfl (fun K hK => ?_) ?_
            · go_simp
              refine hK.out _ _ (HK.out _ Kb.out.1) (fun hHeld => ?_)
              clear hK K
              try simp only [Act.put, List.setIfInBounds_toArray, List.set_cons_zero, List.set_cons_succ]
              refine wpAnyH_ready (rs := [5]) (by kernel_rfl) (by simp) ?_
              refine AllReadyH.cons (o := { dst := some 44, op := Op.call { callee := Callee.builtin Builtin.append, args := #[Operand.tmp 42, Operand.tmp 43], argTypes := #[23, 23] }, type := 23, pos := "ref.go:109", after := #[{ on := 3, ground := Ground.data }, { on := 4, ground := Ground.data }], guard := none }) rfl (fun K hK => ?_) ?_
              · refine step_append_rd rfl (.tmp 42) (.tmp 43) _ rfl u4.heap.size 5 i0 Try.underlying23 HI0.out HZ0.out HZ1.out HZ2.out (n := 0) (f := (fun _ => 0)) rfl Kb.out.2.1 rfl (HEAD.out _ Kb.out.1) (by omega) Kb.out.1.size ?_
                intro A44 c44 u44 hown44 hg44
                have HB44 : Hid (Below u4.heap.size u4 u44) := (Gb.out _ hg44).1
                have HO44 := Lib.hid hown44
                have HR44 := Lib.hid (Gb.out _ hg44).2
                clear hown44 hg44
                refine hK.out _ _ (HK.out _ HB44.out) (fun hHeld => ?_)
                clear hK K
                try simp only [Act.put, List.setIfInBounds_toArray, List.set_cons_zero, List.set_cons_succ]
                refine wpAnyH_ready (rs := [7]) (by kernel_rfl) (by simp) ?_
                refine AllReadyH.cons (o := { dst := some 46, op := Op.call { callee := Callee.builtin Builtin.append, args := #[Operand.tmp 44, Operand.tmp 45], argTypes := #[23, 23] }, type := 23, pos := "ref.go:109", after := #[{ on := 5, ground := Ground.data }, { on := 6, ground := Ground.data }, { on := 5, ground := Ground.chain }], guard := none }) rfl (fun K hK => ?_) ?_
                · refine step_append_rd rfl (.tmp 44) (.tmp 45) _ rfl u4.heap.size 5 i0 Try.underlying23 HI0.out HZ0.out HZ1.out HZ2.out rfl HO44.out rfl HR44.out (by omega) HB44.out.size ?_
                  intro A46 c46 u46 hown46 hg46
                  have HB46 : Hid (Below u4.heap.size u4 u46) := HB44.out.grown hg46 HB44.out.size (fun k hk => HO44.out.at_ k hk)
                  have HO46 := Lib.hid hown46
                  clear hown46 hg46
                  refine hK.out _ _ (HK.out _ HB46.out) (fun hHeld => ?_)
                  clear hK K
                  try simp only [Act.put, List.setIfInBounds_toArray, List.set_cons_zero, List.set_cons_succ]
                  refine wpAnyH_ready (rs := [9]) (by kernel_rfl) (by simp) ?_
                  refine AllReadyH.cons (o := { dst := some 48, op := Op.call { callee := Callee.builtin Builtin.append, args := #[Operand.tmp 46, Operand.tmp 47], argTypes := #[23, 23] }, type := 23, pos := "ref.go:109", after := #[{ on := 7, ground := Ground.data }, { on := 8, ground := Ground.data }, { on := 7, ground := Ground.chain }], guard := none }) rfl (fun K hK => ?_) ?_
                  · refine step_append_rd rfl (.tmp 46) (.tmp 47) _ rfl u4.heap.size 5 i0 Try.underlying23 HI0.out HZ0.out HZ1.out HZ2.out rfl HO46.out rfl (PAY.out _ HB46.out) (by omega) HB46.out.size ?_
                    intro A48 c48 u48 hown48 hg48
                    have HB48 : Hid (Below u4.heap.size u4 u48) := HB46.out.grown hg48 HB46.out.size (fun k hk => HO46.out.at_ k hk)
                    have HO48 : Hid (Rd u48 u48.heap.size A48 (8 + n) (udpB sp dp (8 + (n : Int)) 0 f)) := Lib.hid (by
                      have q := hown48.rd
                      rw [show 0 + 6 + 2 + n = (8 + n) by omega] at q
                      exact q.same fun k hk => by
                        have t := udp_told (n := n) (su := 0) f h1 h2 (by omega : 0 ≤ (8 + (n : Int)) ∧ (8 + (n : Int)) ≤ 65535) (p := two 0 0) rfl rfl k hk
                        rw [cat_zero]
                        exact t)
                    clear hown48 hg48
                    refine hK.out _ _ (HK.out _ HB48.out) (fun hHeld => ?_)
                    clear hK K
                    try simp only [Act.put, List.setIfInBounds_toArray, List.set_cons_zero, List.set_cons_succ]
                    refine wpAnyH_ready (rs := [10]) (by kernel_rfl) (by simp) ?_
                    refine AllReadyH.cons (o := { dst := some 49, op := Op.call { callee := Callee.value (Operand.func 21), args := #[Operand.tmp 39, Operand.tmp 40, Operand.tmp 41, Operand.const (Value.int IntKind.u8 17), Operand.tmp 48], argTypes := #[4, 22, 22, 5, 23] }, type := 25, pos := "ref.go:109", after := #[{ on := 0, ground := Ground.data }, { on := 1, ground := Ground.data }, { on := 2, ground := Ground.data }, { on := 9, ground := Ground.data }, { on := 9, ground := Ground.chain }], guard := none }) rfl (fun K hK => ?_) ?_
                    · go_simp
                      go_at_call 21
                      refine (HSO.out _ _ _ _ (by omega) HO48.out).mono ?_
                      rintro e u49 ⟨rfl, hb49⟩
                      have HB49 : Hid (Below u4.heap.size u4 u49) := HB48.out.trans (hb49.mono HB48.out.size)
                      clear hb49
                      try go_wp2_with fail
                      refine hK.out _ _ (HK.out _ HB49.out) (fun hHeld => ?_)
                      clear hK K
                      try simp only [Act.put, List.setIfInBounds_toArray, List.set_cons_zero, List.set_cons_succ]
                      refine wpAnyH_ready (rs := [11]) (by kernel_rfl) (by simp) ?_
                      refine AllReadyH.cons (o := { dst := some 13, op := Op.assign (Operand.tmp 49), type := 25, pos := "ref.go:109", after := #[{ on := 10, ground := Ground.data }, { on := 10, ground := Ground.chain }, { on := 0, ground := Ground.phase }, { on := 1, ground := Ground.phase }, { on := 2, ground := Ground.phase }, { on := 3, ground := Ground.phase }, { on := 4, ground := Ground.phase }, { on := 5, ground := Ground.phase }, { on := 6, ground := Ground.phase }, { on := 7, ground := Ground.phase }, { on := 8, ground := Ground.phase }, { on := 9, ground := Ground.phase }, { on := 10, ground := Ground.phase }], guard := none }) rfl (fun K hK => ?_) ?_
                      · go_simp
                        refine hK.out _ _ (HK.out _ HB49.out) (fun hHeld => ?_)
                        clear hK K
                        try simp only [Act.put, List.setIfInBounds_toArray, List.set_cons_zero, List.set_cons_succ]
                        refine wpAnyH_done (by kernel_rfl) ?_ _
                        go_wp2_with fail
                        go_meet
                        exact ⟨rfl, HB49⟩
                      exact AllReadyH.nil
                    exact AllReadyH.nil
                  exact AllReadyH.nil
                exact AllReadyH.nil
              exact AllReadyH.nil
            exact AllReadyH.nil
          refine AllReadyH.cons (o := { dst := some 45, op := Op.buildSlice 23 2 #[(0, Operand.const (Value.int IntKind.u8 0)), (1, Operand.const (Value.int IntKind.u8 0))], type := 23, pos := "ref.go:109", after := #[], guard := none }) rfl (fun K hK => ?_) ?_
          · go_simp
            refine hK.out _ _ (HK.out _ ((Below.refl _ _).drew.alloc (Nat.le_refl _) _)) (fun hHeld => ?_)
            clear hK K
            try simp only [Act.put, List.setIfInBounds_toArray, List.set_cons_zero, List.set_cons_succ]
            refine wpAnyH_ready (rs := [3]) (by kernel_rfl) (by simp) ?_
            refine AllReadyH.cons (o := { dst := some 42, op := Op.buildSlice 23 0 #[], type := 23, pos := "ref.go:109", after := #[], guard := none }) rfl (fun K hK => ?_) ?_
            · go_simp
              refine hK.out _ _ (HK.out _ Kc.out.1) (fun hHeld => ?_)
              clear hK K
              try simp only [Act.put, List.setIfInBounds_toArray, List.set_cons_zero, List.set_cons_succ]
              refine wpAnyH_ready (rs := [5]) (by kernel_rfl) (by simp) ?_
              refine AllReadyH.cons (o := { dst := some 44, op := Op.call { callee := Callee.builtin Builtin.append, args := #[Operand.tmp 42, Operand.tmp 43], argTypes := #[23, 23] }, type := 23, pos := "ref.go:109", after := #[{ on := 3, ground := Ground.data }, { on := 4, ground := Ground.data }], guard := none }) rfl (fun K hK => ?_) ?_
              · refine step_append_rd rfl (.tmp 42) (.tmp 43) _ rfl u4.heap.size 5 i0 Try.underlying23 HI0.out HZ0.out HZ1.out HZ2.out (n := 0) (f := (fun _ => 0)) rfl Kc.out.2.1 rfl (HEAD.out _ Kc.out.1) (by omega) Kc.out.1.size ?_
                intro A44 c44 u44 hown44 hg44
                have HB44 : Hid (Below u4.heap.size u4 u44) := (Gc.out _ hg44).1
                have HO44 := Lib.hid hown44
                have HR44 := Lib.hid (Gc.out _ hg44).2
                clear hown44 hg44
                refine hK.out _ _ (HK.out _ HB44.out) (fun hHeld => ?_)
                clear hK K
                try simp only [Act.put, List.setIfInBounds_toArray, List.set_cons_zero, List.set_cons_succ]
                refine wpAnyH_ready (rs := [7]) (by kernel_rfl) (by simp) ?_
                refine AllReadyH.cons (o := { dst := some 46, op := Op.call { callee := Callee.builtin Builtin.append, args := #[Operand.tmp 44, Operand.tmp 45], argTypes := #[23, 23] }, type := 23, pos := "ref.go:109", after := #[{ on := 5, ground := Ground.data }, { on := 6, ground := Ground.data }, { on := 5, ground := Ground.chain }], guard := none }) rfl (fun K hK => ?_) ?_
                · refine step_append_rd rfl (.tmp 44) (.tmp 45) _ rfl u4.heap.size 5 i0 Try.underlying23 HI0.out HZ0.out HZ1.out HZ2.out rfl HO44.out rfl HR44.out (by omega) HB44.out.size ?_
                  intro A46 c46 u46 hown46 hg46
                  have HB46 : Hid (Below u4.heap.size u4 u46) := HB44.out.grown hg46 HB44.out.size (fun k hk => HO44.out.at_ k hk)
                  have HO46 := Lib.hid hown46
                  clear hown46 hg46
                  refine hK.out _ _ (HK.out _ HB46.out) (fun hHeld => ?_)
                  clear hK K
                  try simp only [Act.put, List.setIfInBounds_toArray, List.set_cons_zero, List.set_cons_succ]
                  refine wpAnyH_ready (rs := [9]) (by kernel_rfl) (by simp) ?_
                  refine AllReadyH.cons (o := { dst := some 48, op := Op.call { callee := Callee.builtin Builtin.append, args := #[Operand.tmp 46, Operand.tmp 47], argTypes := #[23, 23] }, type := 23, pos := "ref.go:109", after := #[{ on := 7, ground := Ground.data }, { on := 8, ground := Ground.data }, { on := 7, ground := Ground.chain }], guard := none }) rfl (fun K hK => ?_) ?_
                  · refine step_append_rd rfl (.tmp 46) (.tmp 47) _ rfl u4.heap.size 5 i0 Try.underlying23 HI0.out HZ0.out HZ1.out HZ2.out rfl HO46.out rfl (PAY.out _ HB46.out) (by omega) HB46.out.size ?_
                    intro A48 c48 u48 hown48 hg48
                    have HB48 : Hid (Below u4.heap.size u4 u48) := HB46.out.grown hg48 HB46.out.size (fun k hk => HO46.out.at_ k hk)
                    have HO48 : Hid (Rd u48 u48.heap.size A48 (8 + n) (udpB sp dp (8 + (n : Int)) 0 f)) := Lib.hid (by
                      have q := hown48.rd
                      rw [show 0 + 6 + 2 + n = (8 + n) by omega] at q
                      exact q.same fun k hk => by
                        have t := udp_told (n := n) (su := 0) f h1 h2 (by omega : 0 ≤ (8 + (n : Int)) ∧ (8 + (n : Int)) ≤ 65535) (p := two 0 0) rfl rfl k hk
                        rw [cat_zero]
                        exact t)
                    clear hown48 hg48
                    refine hK.out _ _ (HK.out _ HB48.out) (fun hHeld => ?_)
                    clear hK K
                    try simp only [Act.put, List.setIfInBounds_toArray, List.set_cons_zero, List.set_cons_succ]
                    refine wpAnyH_ready (rs := [10]) (by kernel_rfl) (by simp) ?_
                    refine AllReadyH.cons (o := { dst := some 49, op := Op.call { callee := Callee.value (Operand.func 21), args := #[Operand.tmp 39, Operand.tmp 40, Operand.tmp 41, Operand.const (Value.int IntKind.u8 17), Operand.tmp 48], argTypes := #[4, 22, 22, 5, 23] }, type := 25, pos := "ref.go:109", after := #[{ on := 0, ground := Ground.data }, { on := 1, ground := Ground.data }, { on := 2, ground := Ground.data }, { on := 9, ground := Ground.data }, { on := 9, ground := Ground.chain }], guard := none }) rfl (fun K hK => ?_) ?_
                    · go_simp
                      go_at_call 21
                      refine (HSO.out _ _ _ _ (by omega) HO48.out).mono ?_
                      rintro e u49 ⟨rfl, hb49⟩
                      have HB49 : Hid (Below u4.heap.size u4 u49) := HB48.out.trans (hb49.mono HB48.out.size)
                      clear hb49
                      try go_wp2_with fail
                      refine hK.out _ _ (HK.out _ HB49.out) (fun hHeld => ?_)
                      clear hK K
                      try simp only [Act.put, List.setIfInBounds_toArray, List.set_cons_zero, List.set_cons_succ]
                      refine wpAnyH_ready (rs := [11]) (by kernel_rfl) (by simp) ?_
                      refine AllReadyH.cons (o := { dst := some 13, op := Op.assign (Operand.tmp 49), type := 25, pos := "ref.go:109", after := #[{ on := 10, ground := Ground.data }, { on := 10, ground := Ground.chain }, { on := 0, ground := Ground.phase }, { on := 1, ground := Ground.phase }, { on := 2, ground := Ground.phase }, { on := 3, ground := Ground.phase }, { on := 4, ground := Ground.phase }, { on := 5, ground := Ground.phase }, { on := 6, ground := Ground.phase }, { on := 7, ground := Ground.phase }, { on := 8, ground := Ground.phase }, { on := 9, ground := Ground.phase }, { on := 10, ground := Ground.phase }], guard := none }) rfl (fun K hK => ?_) ?_
                      · go_simp
                        refine hK.out _ _ (HK.out _ HB49.out) (fun hHeld => ?_)
                        clear hK K
                        try simp only [Act.put, List.setIfInBounds_toArray, List.set_cons_zero, List.set_cons_succ]
                        refine wpAnyH_done (by kernel_rfl) ?_ _
                        go_wp2_with fail
                        go_meet
                        exact ⟨rfl, HB49⟩
                      exact AllReadyH.nil
                    exact AllReadyH.nil
                  exact AllReadyH.nil
                exact AllReadyH.nil
              exact AllReadyH.nil
            exact AllReadyH.nil
          exact AllReadyH.nil
        case rest =>
        obtain ⟨rfl, HBc⟩ := hcut
        have HHc := Lib.hid (HH5.out.step HBc.out)
        clear HK Ka Kb Kc Ga Gb Gc HEAD PAY HSO HBc HH5 hls16 hld16 hund
        go_upto_if 51 with fail
        by_cases c0 : C = 0
        · have c0' : (C == 0) = true := by simpa using c0
          have HC0 := Lib.hid c0
          clear c0
          have zx : IntKind.u32.wrap 65535 = 65535 := by rw [IntKind.wrap_u32']; omega
          go_wp2_with fail
          go_at_call 23
          refine (rlay2 (w.heap.size + 1 + 1 + 1) A4 6 c4 _ 65535 8 (by omega) ⟨by omega, by omega⟩ (by omega) wc HHc.out.own HHc.out.box.size).mono ?_
          rintro e v6w ⟨A16, c16, rfl, ho16, hg16, _⟩
          have HH16 := Lib.hid (HHc.out.grow ho16 hg16)
          clear ho16 hg16 zx
          go_wp2_with (first
            | (at_builtin
               refine wpList_append_rd rfl (.tmp 55) (.tmp 56) _ rfl (w.heap.size + 1 + 1 + 1) 5 i0 Try.underlying23 HI0.out HZ0.out HZ1.out HZ2.out rfl HH16.out.own rfl (HR.out.keep HH16.out.box.below) (by omega) HH16.out.box.size ?_
               intro A17 c17 u17 hown17 hg17 _
               have HH17 := Lib.hid (HH16.out.grow hown17 hg17)
               clear hown17 hg17))
          go_ret2
          obtain ⟨l0, l1⟩ := lay_two (su := 65535) (by omega)
          refine .inr ⟨by first | rfl | exact hRe, A17, c17, rfl, ?_, HH17.out.box.below⟩
          rw [show udpS false (psq false s d 17 (8 + n)) (udpB sp dp (8 + (n : Int)) 0 f) (8 + n) = 65535 from by unfold udpS; rw [if_neg (by decide), if_pos (HCC.out.symm.trans HC0.out)]]
          exact (HH17.out.own.le (by omega)).same fun k hk => udp_told f h1 h2 (by omega) l0 l1 k (by omega)
        · have c0' : (C == 0) = false := by simpa using c0
          have HC0 : Hid (rgt (psq false s d 17 (8 + n)) (udpB sp dp (8 + (n : Int)) 0 f) (8 + n) ≠ 0) := Lib.hid (by rw [← HCC.out]; exact c0)
          clear c0
          have zx : IntKind.u32.wrap C = C := by rw [IntKind.wrap_u32']; omega
          go_wp2_with fail
          go_at_call 23
          refine (rlay2 (w.heap.size + 1 + 1 + 1) A4 6 c4 _ C 8 (by omega) ⟨by omega, by omega⟩ (by omega) wc HHc.out.own HHc.out.box.size).mono ?_
          rintro e v6w ⟨A16, c16, rfl, ho16, hg16, _⟩
          have HH16 := Lib.hid (HHc.out.grow ho16 hg16)
          clear ho16 hg16 zx
          go_wp2_with (first
            | (at_builtin
               refine wpList_append_rd rfl (.tmp 55) (.tmp 56) _ rfl (w.heap.size + 1 + 1 + 1) 5 i0 Try.underlying23 HI0.out HZ0.out HZ1.out HZ2.out rfl HH16.out.own rfl (HR.out.keep HH16.out.box.below) (by omega) HH16.out.box.size ?_
               intro A17 c17 u17 hown17 hg17 _
               have HH17 := Lib.hid (HH16.out.grow hown17 hg17)
               clear hown17 hg17))
          go_ret2
          obtain ⟨l0, l1⟩ := lay_two (su := C) (by omega)
          refine .inr ⟨by first | rfl | exact hRe, A17, c17, rfl, ?_, HH17.out.box.below⟩
          rw [show udpS false (psq false s d 17 (8 + n)) (udpB sp dp (8 + (n : Int)) 0 f) (8 + n) = C from by unfold udpS; rw [if_neg (by decide), if_neg HC0.out]; exact HCC.out.symm]
          exact (HH17.out.own.le (by omega)).same fun k hk => udp_told f h1 h2 (by omega) l0 l1 k (by omega)
    · have HOK : Hid (¬ (true && false) = true) := Lib.hid (by simp)
      go_upto_if 18 with fail
      go_upto_if 22 with fail
      by_cases cL : 1660 < (8 + n)
      · have cL' : 8 + (n : Int) > 1660 := by omega
        have hRe : R = 3 := HRE.out.trans (by unfold udpX; rw [if_neg HOK.out, if_pos (by omega)])
        go_wp2_with fail
        go_ret2
        refine .inl ⟨by first | (rw [hRe]; decide) | decide, none, 0, by first | rfl | (rw [hRe] <;> rfl), Own.nil_ _ _ _ _, HX1.out.below⟩
      · have hm : (8 + n) ≤ 1660 := by omega
        have hRe : R = 0 := HRE.out.trans (by unfold udpX; rw [if_neg HOK.out, if_neg (by omega)])
        have cL' : 8 + (n : Int) ≤ 1660 := by omega
        have y0 : IntKind.u32.wrap sp = sp := by rw [IntKind.wrap_u32']; omega
        have y1 : IntKind.u32.wrap dp = dp := by rw [IntKind.wrap_u32']; omega
        have y3 : IntKind.i64.wrap (8 + (n : Int)) = 8 + (n : Int) := by rw [IntKind.wrap_i64]; omega
        have y2 : IntKind.u32.wrap (8 + (n : Int)) = 8 + (n : Int) := by rw [IntKind.wrap_u32']; omega
        have HL2 : Hid (∀ W, Below (w.heap.size + 1 + 1 + 1) u1 W → Calls Try.prog 23 #[.slice none 0 0, .int .u32 sp, .int .i64 2] W fun e w' => ∃ A' c', e = .returned (.slice A' 2 c') ∧ Own w' (w.heap.size + 1 + 1 + 1) 5 A' 2 c' (cat 0 (fun _ => 0) (layb sp 2)) ∧ W.grownBy w' (Value.ownBlock (.slice none 0 0)) ∧ (∀ q, Value.ownBlock (.slice A' 2 c') = some q → W.heap.size ≤ q ∨ Value.ownBlock (.slice none 0 0) = some q)) := Lib.hid fun W hW =>
          rlay2 (w.heap.size + 1 + 1 + 1) none 0 0 (fun _ => 0) sp 2 (by omega) ⟨by omega, by omega⟩ (by omega) W (Own.nil_ _ _ _ _) (Nat.le_trans HX1.out.size hW.size)
        have HK : Hid (∀ W, Below (w.heap.size + 1 + 1 + 1) u1 W → W.cell? ⟨w.heap.size + 1 + 1, 0, none⟩ = some (.int .u16 sp) ∧ W.cell? ⟨w.heap.size + 1 + 1, 1, none⟩ = some (.int .u16 dp)) := Lib.hid fun W hW => ⟨(hW.cell (p := ⟨w.heap.size + 1 + 1, 0, none⟩) (show w.heap.size + 1 + 1 < (w.heap.size + 1 + 1 + 1) by omega)).trans (blk_cell HX1.out.b2 0), (hW.cell (p := ⟨w.heap.size + 1 + 1, 1, none⟩) (show w.heap.size + 1 + 1 < (w.heap.size + 1 + 1 + 1) by omega)).trans (blk_cell HX1.out.b2 1)⟩
        go_upto_region 5 with fail
        go_region_held3 (fun w' => w'.cell? ⟨w.heap.size + 1 + 1, 0, none⟩ = some (.int .u16 sp) ∧ w'.cell? ⟨w.heap.size + 1 + 1, 1, none⟩ = some (.int .u16 dp)) (first | (with_reducible exact HK.out _ (Below.refl _ _)) | (with_reducible exact HK.out _ (Below.refl _ _).drew) | (with_reducible exact HK.out _ HB2.out) | (with_reducible exact HK.out _ HB3.out) | (with_reducible exact HK.out _ HB4.out))
          (first
          | (go_at_call 23
             with_reducible refine (HL2.out _ (Below.refl _ _).drew).mono ?_
             rintro e u2 ⟨A2, c2, rfl, ho2, hg2, _⟩
             have HB2 : Hid (Below (w.heap.size + 1 + 1 + 1) u1 u2) := Lib.hid ((Below.refl (w.heap.size + 1 + 1 + 1) u1).drew.grown hg2 HX1.out.size (fun k hk => by simp [Value.ownBlock] at hk))
             have HO2 := Lib.hid ho2
             clear ho2 hg2)
          | (go_at_call 23
             with_reducible refine (rlay2 (w.heap.size + 1 + 1 + 1) A2 2 c2 (cat 0 (fun _ => 0) (layb sp 2)) dp 4 (by omega) ⟨by omega, by omega⟩ (by omega) _ HO2.out (Nat.le_trans HX1.out.size HB2.out.size)).mono ?_
             rintro e u3 ⟨A3, c3, rfl, ho3, hg3, _⟩
             have HB3 : Hid (Below (w.heap.size + 1 + 1 + 1) u1 u3) := Lib.hid (HB2.out.grown hg3 (Nat.le_trans HX1.out.size HB2.out.size) (fun k hk => HO2.out.at_ k hk))
             have HO3 := Lib.hid ho3
             clear ho3 hg3)
          | (go_at_call 23
             with_reducible refine (rlay2 (w.heap.size + 1 + 1 + 1) A3 4 c3 (cat 2 (cat 0 (fun _ => 0) (layb sp 2)) (layb dp 2)) (8 + (n : Int)) 6 (by omega) ⟨by omega, by omega⟩ (by omega) _ HO3.out (Nat.le_trans HX1.out.size HB3.out.size)).mono ?_
             rintro e u4 ⟨A4, c4, rfl, ho4, hg4, _⟩
             have HB4 : Hid (Below (w.heap.size + 1 + 1 + 1) u1 u4) := Lib.hid (HB3.out.grown hg4 (Nat.le_trans HX1.out.size HB3.out.size) (fun k hk => HO3.out.at_ k hk))
             have HO4 := Lib.hid ho4
             clear ho4 hg4))
        have HH5 : Hid (WrH w u4 s d (udpc sp dp false) 34 A4 6 c4 (h6 sp dp (8 + (n : Int)))) := ⟨HX1.out.keep HB4.out, HO4.out⟩
        clear HL2 HO2 HO3 HO4 HB2 HB3 HB4 HK a2 HX1 y0 y1 y2 y3
        have b2 : u4.cell? ⟨w.heap.size + 1 + 1, 2, none⟩ = some (.bool false) := blk_cell HH5.out.box.b2 2
        go_upto_region 8 with fail
        clear b2
        have HTB : Hid (Byt (udpB sp dp (8 + (n : Int)) 0 f)) := cat_byt 8 (udpH_byt h1 h2 (by omega) ⟨by omega, by omega⟩) HF.out
        obtain ⟨ls, hls⟩ : ∃ ls, ls = (arr16 s).toList := ⟨_, rfl⟩
        obtain ⟨ld, hld⟩ : ∃ ld, ld = (arr16 d).toList := ⟨_, rfl⟩
        have hls16 : (Try.prog.info? 22).map (·.size) = some ls.length := by rw [hls]; kernel_rfl
        have hld16 : (Try.prog.info? 22).map (·.size) = some ld.length := by rw [hld]; kernel_rfl
        have hund := Try.underlying22
        have hcb := rgt_bd HTB.out (psq_bd true HS.out HD.out (pr := 17) (by omega) (by omega) (8 + n)) (8 + n)
        have HSO : Hid (∀ (A : Option Addr) (m c : Nat) (W : World), m = (8 + n) → Rd W W.heap.size A (8 + n) (udpB sp dp (8 + (n : Int)) 0 f) → Calls Try.prog 21 #[.bool true, .agg ls.toArray, .agg ld.toArray, .int .u8 17, .slice A m c] W fun e w' => e = .returned (.int .u16 (rgt (psq true s d 17 (8 + n)) (udpB sp dp (8 + (n : Int)) 0 f) (8 + n))) ∧ Below W.heap.size W w') := Lib.hid fun A m c W hm ho => by
          subst hm
          have h := right_any true s d HS.out HD.out 17 (by omega) (by omega) A (8 + n) c _ HTB.out (by omega) W ho
          rw [hls, hld]
          exact h
        obtain ⟨C, hC⟩ : ∃ C, C = rgt (psq true s d 17 (8 + n)) (udpB sp dp (8 + (n : Int)) 0 f) (8 + n) := ⟨_, rfl⟩
        rw [← hC] at HSO hcb
        have HCC := Lib.hid hC
        clear hC
        have HK : Hid (∀ W, Below u4.heap.size u4 W → W.rangeAt w.heap.size 0 ls ∧ W.rangeAt (w.heap.size + 1) 0 ld) := Lib.hid fun W hW => by
          rw [hls, hld]
          exact ⟨arr16_rng ((hW.block _ (lt_heap HH5.out.box.b0)).trans HH5.out.box.b0), arr16_rng ((hW.block _ (lt_heap HH5.out.box.b1)).trans HH5.out.box.b1)⟩
        clear hls hld
        have Ka : Hid (Below u4.heap.size u4 (u4.drew.alloc (.cells #[] 5)) ∧ Own (u4.drew.alloc (.cells #[] 5)) u4.heap.size 5 (some ⟨u4.heap.size, 0, none⟩) 0 0 (fun _ => 0)) := ⟨(Below.refl _ _).drew.alloc (Nat.le_refl _) _, Own.fresh u4.drew _ _ rfl (Nat.le_refl _) _ _⟩
        have Kb : Hid (Below u4.heap.size u4 ((u4.drew.alloc (.cells #[] 5)).alloc (.cells #[.int .u8 0, .int .u8 0] 5)) ∧ Own ((u4.drew.alloc (.cells #[] 5)).alloc (.cells #[.int .u8 0, .int .u8 0] 5)) u4.heap.size 5 (some ⟨u4.heap.size, 0, none⟩) 0 0 (fun _ => 0) ∧ Rd ((u4.drew.alloc (.cells #[] 5)).alloc (.cells #[.int .u8 0, .int .u8 0] 5)) ((u4.drew.alloc (.cells #[] 5)).alloc (.cells #[.int .u8 0, .int .u8 0] 5)).heap.size (some ⟨u4.heap.size + 1, 0, none⟩) 2 (two 0 0)) := ⟨Ka.out.1.alloc Ka.out.1.size _, Ka.out.2.alloc _, rd_two _ _ _ (by simp) (by simp) 0 0 5⟩
        have Kc : Hid (Below u4.heap.size u4 ((u4.drew.alloc (.cells #[.int .u8 0, .int .u8 0] 5)).alloc (.cells #[] 5)) ∧ Own ((u4.drew.alloc (.cells #[.int .u8 0, .int .u8 0] 5)).alloc (.cells #[] 5)) u4.heap.size 5 (some ⟨u4.heap.size + 1, 0, none⟩) 0 0 (fun _ => 0) ∧ Rd ((u4.drew.alloc (.cells #[.int .u8 0, .int .u8 0] 5)).alloc (.cells #[] 5)) ((u4.drew.alloc (.cells #[.int .u8 0, .int .u8 0] 5)).alloc (.cells #[] 5)).heap.size (some ⟨u4.heap.size, 0, none⟩) 2 (two 0 0)) := ⟨((Below.refl _ _).drew.alloc (Nat.le_refl _) _).alloc (alloc_le u4.drew _) _, Own.fresh (u4.drew.alloc (.cells #[.int .u8 0, .int .u8 0] 5)) _ _ (by simp) (alloc_le u4.drew _) _ _, ((rd_two u4.drew (u4.drew.heap.size + 1) u4.heap.size rfl (Nat.lt_succ_self _) 0 0 5).keep ((below_alloc _ _).mono (by simp))).more (by simp)⟩
        have Ga : Hid (∀ W', (u4.drew.alloc (.cells #[] 5)).grownBy W' (Value.ownBlock (.slice (some ⟨u4.heap.size, 0, none⟩) 0 0)) → Below u4.heap.size u4 W') := Lib.hid fun W' hg => Ka.out.1.grown hg Ka.out.1.size (fun k hk => by simp [Value.ownBlock] at hk; omega)
        have Gb : Hid (∀ W', ((u4.drew.alloc (.cells #[] 5)).alloc (.cells #[.int .u8 0, .int .u8 0] 5)).grownBy W' (Value.ownBlock (.slice (some ⟨u4.heap.size, 0, none⟩) 0 0)) → Below u4.heap.size u4 W' ∧ Rd W' W'.heap.size (some ⟨u4.heap.size + 1, 0, none⟩) 2 (two 0 0)) := Lib.hid fun W' hg => ⟨Kb.out.1.grown hg Kb.out.1.size (fun k hk => by simp [Value.ownBlock] at hk; omega), Kb.out.2.2.grown (c := 2) hg (fun q hq hr => by simp [Value.ownBlock] at hq hr; omega)⟩
        have Gc : Hid (∀ W', ((u4.drew.alloc (.cells #[.int .u8 0, .int .u8 0] 5)).alloc (.cells #[] 5)).grownBy W' (Value.ownBlock (.slice (some ⟨u4.heap.size + 1, 0, none⟩) 0 0)) → Below u4.heap.size u4 W' ∧ Rd W' W'.heap.size (some ⟨u4.heap.size, 0, none⟩) 2 (two 0 0)) := Lib.hid fun W' hg => ⟨Kc.out.1.grown hg Kc.out.1.size (fun k hk => by simp [Value.ownBlock] at hk; omega), Kc.out.2.2.grown (c := 2) hg (fun q hq hr => by simp [Value.ownBlock] at hq hr; omega)⟩
        have HEAD : Hid (∀ W, Below u4.heap.size u4 W → Rd W W.heap.size A4 6 (h6 sp dp (8 + (n : Int)))) := Lib.hid fun W hW => (HH5.out.own.below hW).rd
        have PAY : Hid (∀ W, Below u4.heap.size u4 W → Rd W w.heap.size A n f) := Lib.hid fun W hW => HR.out.keep (HH5.out.box.below.trans (hW.mono HH5.out.box.below.size))
        go_cut [13] from 39 to 49 (fun x wx => x = .int .u16 C ∧ Hid (Below u4.heap.size u4 wx))
        case first =>
          refine wp_region_held_drew (S := fun w' => w'.rangeAt w.heap.size 0 ls ∧ w'.rangeAt (w.heap.size + 1) 0 ld) (by kernel_rfl) (HK.out _ (Below.refl _ _).drew) (fun hHeld => ?_)
          refine wpAnyH_take (i := 0) (oi := { dst := some 39, op := Op.move (Operand.tmp 0), type := 4, pos := "ref.go:109", after := #[], guard := none }) (v := .bool true) rfl (by kernel_rfl) (by kernel_rfl) (by kernel_rfl) (fun _ _ _ h => h) (Or.inl ⟨by rfl, ?_⟩) hHeld ?_
          · intro w hSw
            go_simp
          simp only [Act.put, List.setIfInBounds_toArray, List.set_cons_zero, List.set_cons_succ]
          refine wpAnyH_take (i := 1) (oi := { dst := some 40, op := Op.load 22 (Operand.tmp 6), type := 22, pos := "ref.go:109", after := #[], guard := none }) (v := _) rfl (by kernel_rfl) (by kernel_rfl) (by kernel_rfl) (fun _ _ _ h => h) (yieldsIf_load_mid (by rfl) _ _ rfl _ _ rfl ls _ (fun _ h => h.1) hund rfl hls16) hHeld ?_
          simp only [Act.put, List.setIfInBounds_toArray, List.set_cons_zero, List.set_cons_succ]
          refine wpAnyH_take (i := 2) (oi := { dst := some 41, op := Op.load 22 (Operand.tmp 7), type := 22, pos := "ref.go:109", after := #[], guard := none }) (v := _) rfl (by kernel_rfl) (by kernel_rfl) (by kernel_rfl) (fun _ _ _ h => h) (yieldsIf_load_mid (by rfl) _ _ rfl _ _ rfl ld _ (fun _ h => h.2) hund rfl hld16) hHeld ?_
          simp only [Act.put, List.setIfInBounds_toArray, List.set_cons_zero, List.set_cons_succ]
          refine wpAnyH_take (i := 4) (oi := { dst := some 43, op := Op.move (Operand.tmp 12), type := 23, pos := "ref.go:109", after := #[], guard := none }) (v := .slice A4 6 c4) rfl (by kernel_rfl) (by kernel_rfl) (by kernel_rfl) (fun _ _ _ h => h) (Or.inl ⟨by rfl, ?_⟩) hHeld ?_
          · intro w hSw
            go_simp
          simp only [Act.put, List.setIfInBounds_toArray, List.set_cons_zero, List.set_cons_succ]
          refine wpAnyH_take (i := 8) (oi := { dst := some 47, op := Op.move (Operand.tmp 4), type := 23, pos := "ref.go:109", after := #[], guard := none }) (v := .slice A n c) rfl (by kernel_rfl) (by kernel_rfl) (by kernel_rfl) (fun _ _ _ h => h) (Or.inl ⟨by rfl, ?_⟩) hHeld ?_
          · intro w hSw
            go_simp
          simp only [Act.put, List.setIfInBounds_toArray, List.set_cons_zero, List.set_cons_succ]
          refine wpAnyH_ready (rs := [3, 6]) (by kernel_rfl) (by simp) ?_
          refine AllReadyH.cons (o := { dst := some 42, op := Op.buildSlice 23 0 #[], type := 23, pos := "ref.go:109", after := #[], guard := none }) rfl (fun K hK => ?_) ?_
          · go_simp
            refine hK.out _ _ (HK.out _ Ka.out.1) (fun hHeld => ?_)
            clear hK K
            try simp only [Act.put, List.setIfInBounds_toArray, List.set_cons_zero, List.set_cons_succ]
            refine wpAnyH_ready (rs := [5, 6]) (by kernel_rfl) (by simp) ?_
            refine AllReadyH.cons (o := { dst := some 44, op := Op.call { callee := Callee.builtin Builtin.append, args := #[Operand.tmp 42, Operand.tmp 43], argTypes := #[23, 23] }, type := 23, pos := "ref.go:109", after := #[{ on := 3, ground := Ground.data }, { on := 4, ground := Ground.data }], guard := none }) rfl (fun K hK => ?_) ?_
            · refine step_append_rd rfl (.tmp 42) (.tmp 43) _ rfl u4.heap.size 5 i0 Try.underlying23 HI0.out HZ0.out HZ1.out HZ2.out (n := 0) (f := (fun _ => 0)) rfl Ka.out.2 rfl (HEAD.out _ Ka.out.1) (by omega) Ka.out.1.size ?_
              intro A44 c44 u44 hown44 hg44
              have HB44 : Hid (Below u4.heap.size u4 u44) := Ga.out _ hg44
              have HO44 := Lib.hid hown44
              clear hown44 hg44
              refine hK.out _ _ (HK.out _ HB44.out) (fun hHeld => ?_)
              clear hK K
              try simp only [Act.put, List.setIfInBounds_toArray, List.set_cons_zero, List.set_cons_succ]
              refine wpAnyH_ready (rs := [6]) (by kernel_rfl) (by simp) ?_
              refine AllReadyH.cons (o := { dst := some 45, op := Op.buildSlice 23 2 #[(0, Operand.const (Value.int IntKind.u8 0)), (1, Operand.const (Value.int IntKind.u8 0))], type := 23, pos := "ref.go:109", after := #[], guard := none }) rfl (fun K hK => ?_) ?_
              · go_simp
                refine hK.out _ _ (HK.out _ (HB44.out.alloc HB44.out.size _)) (fun hHeld => ?_)
                clear hK K
                try simp only [Act.put, List.setIfInBounds_toArray, List.set_cons_zero, List.set_cons_succ]
                refine wpAnyH_ready (rs := [7]) (by kernel_rfl) (by simp) ?_
                refine AllReadyH.cons (o := { dst := some 46, op := Op.call { callee := Callee.builtin Builtin.append, args := #[Operand.tmp 44, Operand.tmp 45], argTypes := #[23, 23] }, type := 23, pos := "ref.go:109", after := #[{ on := 5, ground := Ground.data }, { on := 6, ground := Ground.data }, { on := 5, ground := Ground.chain }], guard := none }) rfl (fun K hK => ?_) ?_
                · refine step_append_rd rfl (.tmp 44) (.tmp 45) _ rfl u4.heap.size 5 i0 Try.underlying23 HI0.out HZ0.out HZ1.out HZ2.out rfl (HO44.out.alloc (.cells #[.int .u8 0, .int .u8 0] 5)) rfl (rd_two u44 (u44.heap.size + 1) _ rfl (Nat.lt_succ_self _) 0 0 5) (by omega) (HB44.out.alloc HB44.out.size (.cells #[.int .u8 0, .int .u8 0] 5)).size ?_
                  intro A46 c46 u46 hown46 hg46
                  have HB46 : Hid (Below u4.heap.size u4 u46) := (HB44.out.alloc HB44.out.size (.cells #[.int .u8 0, .int .u8 0] 5)).grown hg46 (HB44.out.alloc HB44.out.size (.cells #[.int .u8 0, .int .u8 0] 5)).size (fun k hk => HO44.out.at_ k hk)
                  have HO46 := Lib.hid hown46
                  clear hown46 hg46
                  refine hK.out _ _ (HK.out _ HB46.out) (fun hHeld => ?_)
                  clear hK K
                  try simp only [Act.put, List.setIfInBounds_toArray, List.set_cons_zero, List.set_cons_succ]
                  refine wpAnyH_ready (rs := [9]) (by kernel_rfl) (by simp) ?_
                  refine AllReadyH.cons (o := { dst := some 48, op := Op.call { callee := Callee.builtin Builtin.append, args := #[Operand.tmp 46, Operand.tmp 47], argTypes := #[23, 23] }, type := 23, pos := "ref.go:109", after := #[{ on := 7, ground := Ground.data }, { on := 8, ground := Ground.data }, { on := 7, ground := Ground.chain }], guard := none }) rfl (fun K hK => ?_) ?_
                  · refine step_append_rd rfl (.tmp 46) (.tmp 47) _ rfl u4.heap.size 5 i0 Try.underlying23 HI0.out HZ0.out HZ1.out HZ2.out rfl HO46.out rfl (PAY.out _ HB46.out) (by omega) HB46.out.size ?_
                    intro A48 c48 u48 hown48 hg48
                    have HB48 : Hid (Below u4.heap.size u4 u48) := HB46.out.grown hg48 HB46.out.size (fun k hk => HO46.out.at_ k hk)
                    have HO48 : Hid (Rd u48 u48.heap.size A48 (8 + n) (udpB sp dp (8 + (n : Int)) 0 f)) := Lib.hid (by
                      have q := hown48.rd
                      rw [show 0 + 6 + 2 + n = (8 + n) by omega] at q
                      exact q.same fun k hk => by
                        have t := udp_told (n := n) (su := 0) f h1 h2 (by omega : 0 ≤ (8 + (n : Int)) ∧ (8 + (n : Int)) ≤ 65535) (p := two 0 0) rfl rfl k hk
                        rw [cat_zero]
                        exact t)
                    clear hown48 hg48
                    refine hK.out _ _ (HK.out _ HB48.out) (fun hHeld => ?_)
                    clear hK K
                    try simp only [Act.put, List.setIfInBounds_toArray, List.set_cons_zero, List.set_cons_succ]
                    refine wpAnyH_ready (rs := [10]) (by kernel_rfl) (by simp) ?_
                    refine AllReadyH.cons (o := { dst := some 49, op := Op.call { callee := Callee.value (Operand.func 21), args := #[Operand.tmp 39, Operand.tmp 40, Operand.tmp 41, Operand.const (Value.int IntKind.u8 17), Operand.tmp 48], argTypes := #[4, 22, 22, 5, 23] }, type := 25, pos := "ref.go:109", after := #[{ on := 0, ground := Ground.data }, { on := 1, ground := Ground.data }, { on := 2, ground := Ground.data }, { on := 9, ground := Ground.data }, { on := 9, ground := Ground.chain }], guard := none }) rfl (fun K hK => ?_) ?_
                    · go_simp
                      go_at_call 21
                      refine (HSO.out _ _ _ _ (by omega) HO48.out).mono ?_
                      rintro e u49 ⟨rfl, hb49⟩
                      have HB49 : Hid (Below u4.heap.size u4 u49) := HB48.out.trans (hb49.mono HB48.out.size)
                      clear hb49
                      try go_wp2_with fail
                      refine hK.out _ _ (HK.out _ HB49.out) (fun hHeld => ?_)
                      clear hK K
                      try simp only [Act.put, List.setIfInBounds_toArray, List.set_cons_zero, List.set_cons_succ]
                      refine wpAnyH_ready (rs := [11]) (by kernel_rfl) (by simp) ?_
                      refine AllReadyH.cons (o := { dst := some 13, op := Op.assign (Operand.tmp 49), type := 25, pos := "ref.go:109", after := #[{ on := 10, ground := Ground.data }, { on := 10, ground := Ground.chain }, { on := 0, ground := Ground.phase }, { on := 1, ground := Ground.phase }, { on := 2, ground := Ground.phase }, { on := 3, ground := Ground.phase }, { on := 4, ground := Ground.phase }, { on := 5, ground := Ground.phase }, { on := 6, ground := Ground.phase }, { on := 7, ground := Ground.phase }, { on := 8, ground := Ground.phase }, { on := 9, ground := Ground.phase }, { on := 10, ground := Ground.phase }], guard := none }) rfl (fun K hK => ?_) ?_
                      · go_simp
                        refine hK.out _ _ (HK.out _ HB49.out) (fun hHeld => ?_)
                        clear hK K
                        try simp only [Act.put, List.setIfInBounds_toArray, List.set_cons_zero, List.set_cons_succ]
                        refine wpAnyH_done (by kernel_rfl) ?_ _
                        go_wp2_with fail
                        go_meet
                        exact ⟨rfl, HB49⟩
                      exact AllReadyH.nil
                    exact AllReadyH.nil
                  exact AllReadyH.nil
                exact AllReadyH.nil
              exact AllReadyH.nil
            refine AllReadyH.cons (o := { dst := some 45, op := Op.buildSlice 23 2 #[(0, Operand.const (Value.int IntKind.u8 0)), (1, Operand.const (Value.int IntKind.u8 0))], type := 23, pos := "ref.go:109", after := #[], guard := none }) rfl (fun K hK => ?_) ?_
            · go_simp
              refine hK.out _ _ (HK.out _ Kb.out.1) (fun hHeld => ?_)
              clear hK K
              try simp only [Act.put, List.setIfInBounds_toArray, List.set_cons_zero, List.set_cons_succ]
              refine wpAnyH_ready (rs := [5]) (by kernel_rfl) (by simp) ?_
              refine AllReadyH.cons (o := { dst := some 44, op := Op.call { callee := Callee.builtin Builtin.append, args := #[Operand.tmp 42, Operand.tmp 43], argTypes := #[23, 23] }, type := 23, pos := "ref.go:109", after := #[{ on := 3, ground := Ground.data }, { on := 4, ground := Ground.data }], guard := none }) rfl (fun K hK => ?_) ?_
              · refine step_append_rd rfl (.tmp 42) (.tmp 43) _ rfl u4.heap.size 5 i0 Try.underlying23 HI0.out HZ0.out HZ1.out HZ2.out (n := 0) (f := (fun _ => 0)) rfl Kb.out.2.1 rfl (HEAD.out _ Kb.out.1) (by omega) Kb.out.1.size ?_
                intro A44 c44 u44 hown44 hg44
                have HB44 : Hid (Below u4.heap.size u4 u44) := (Gb.out _ hg44).1
                have HO44 := Lib.hid hown44
                have HR44 := Lib.hid (Gb.out _ hg44).2
                clear hown44 hg44
                refine hK.out _ _ (HK.out _ HB44.out) (fun hHeld => ?_)
                clear hK K
                try simp only [Act.put, List.setIfInBounds_toArray, List.set_cons_zero, List.set_cons_succ]
                refine wpAnyH_ready (rs := [7]) (by kernel_rfl) (by simp) ?_
                refine AllReadyH.cons (o := { dst := some 46, op := Op.call { callee := Callee.builtin Builtin.append, args := #[Operand.tmp 44, Operand.tmp 45], argTypes := #[23, 23] }, type := 23, pos := "ref.go:109", after := #[{ on := 5, ground := Ground.data }, { on := 6, ground := Ground.data }, { on := 5, ground := Ground.chain }], guard := none }) rfl (fun K hK => ?_) ?_
                · refine step_append_rd rfl (.tmp 44) (.tmp 45) _ rfl u4.heap.size 5 i0 Try.underlying23 HI0.out HZ0.out HZ1.out HZ2.out rfl HO44.out rfl HR44.out (by omega) HB44.out.size ?_
                  intro A46 c46 u46 hown46 hg46
                  have HB46 : Hid (Below u4.heap.size u4 u46) := HB44.out.grown hg46 HB44.out.size (fun k hk => HO44.out.at_ k hk)
                  have HO46 := Lib.hid hown46
                  clear hown46 hg46
                  refine hK.out _ _ (HK.out _ HB46.out) (fun hHeld => ?_)
                  clear hK K
                  try simp only [Act.put, List.setIfInBounds_toArray, List.set_cons_zero, List.set_cons_succ]
                  refine wpAnyH_ready (rs := [9]) (by kernel_rfl) (by simp) ?_
                  refine AllReadyH.cons (o := { dst := some 48, op := Op.call { callee := Callee.builtin Builtin.append, args := #[Operand.tmp 46, Operand.tmp 47], argTypes := #[23, 23] }, type := 23, pos := "ref.go:109", after := #[{ on := 7, ground := Ground.data }, { on := 8, ground := Ground.data }, { on := 7, ground := Ground.chain }], guard := none }) rfl (fun K hK => ?_) ?_
                  · refine step_append_rd rfl (.tmp 46) (.tmp 47) _ rfl u4.heap.size 5 i0 Try.underlying23 HI0.out HZ0.out HZ1.out HZ2.out rfl HO46.out rfl (PAY.out _ HB46.out) (by omega) HB46.out.size ?_
                    intro A48 c48 u48 hown48 hg48
                    have HB48 : Hid (Below u4.heap.size u4 u48) := HB46.out.grown hg48 HB46.out.size (fun k hk => HO46.out.at_ k hk)
                    have HO48 : Hid (Rd u48 u48.heap.size A48 (8 + n) (udpB sp dp (8 + (n : Int)) 0 f)) := Lib.hid (by
                      have q := hown48.rd
                      rw [show 0 + 6 + 2 + n = (8 + n) by omega] at q
                      exact q.same fun k hk => by
                        have t := udp_told (n := n) (su := 0) f h1 h2 (by omega : 0 ≤ (8 + (n : Int)) ∧ (8 + (n : Int)) ≤ 65535) (p := two 0 0) rfl rfl k hk
                        rw [cat_zero]
                        exact t)
                    clear hown48 hg48
                    refine hK.out _ _ (HK.out _ HB48.out) (fun hHeld => ?_)
                    clear hK K
                    try simp only [Act.put, List.setIfInBounds_toArray, List.set_cons_zero, List.set_cons_succ]
                    refine wpAnyH_ready (rs := [10]) (by kernel_rfl) (by simp) ?_
                    refine AllReadyH.cons (o := { dst := some 49, op := Op.call { callee := Callee.value (Operand.func 21), args := #[Operand.tmp 39, Operand.tmp 40, Operand.tmp 41, Operand.const (Value.int IntKind.u8 17), Operand.tmp 48], argTypes := #[4, 22, 22, 5, 23] }, type := 25, pos := "ref.go:109", after := #[{ on := 0, ground := Ground.data }, { on := 1, ground := Ground.data }, { on := 2, ground := Ground.data }, { on := 9, ground := Ground.data }, { on := 9, ground := Ground.chain }], guard := none }) rfl (fun K hK => ?_) ?_
                    · go_simp
                      go_at_call 21
                      refine (HSO.out _ _ _ _ (by omega) HO48.out).mono ?_
                      rintro e u49 ⟨rfl, hb49⟩
                      have HB49 : Hid (Below u4.heap.size u4 u49) := HB48.out.trans (hb49.mono HB48.out.size)
                      clear hb49
                      try go_wp2_with fail
                      refine hK.out _ _ (HK.out _ HB49.out) (fun hHeld => ?_)
                      clear hK K
                      try simp only [Act.put, List.setIfInBounds_toArray, List.set_cons_zero, List.set_cons_succ]
                      refine wpAnyH_ready (rs := [11]) (by kernel_rfl) (by simp) ?_
                      refine AllReadyH.cons (o := { dst := some 13, op := Op.assign (Operand.tmp 49), type := 25, pos := "ref.go:109", after := #[{ on := 10, ground := Ground.data }, { on := 10, ground := Ground.chain }, { on := 0, ground := Ground.phase }, { on := 1, ground := Ground.phase }, { on := 2, ground := Ground.phase }, { on := 3, ground := Ground.phase }, { on := 4, ground := Ground.phase }, { on := 5, ground := Ground.phase }, { on := 6, ground := Ground.phase }, { on := 7, ground := Ground.phase }, { on := 8, ground := Ground.phase }, { on := 9, ground := Ground.phase }, { on := 10, ground := Ground.phase }], guard := none }) rfl (fun K hK => ?_) ?_
                      · go_simp
                        refine hK.out _ _ (HK.out _ HB49.out) (fun hHeld => ?_)
                        clear hK K
                        try simp only [Act.put, List.setIfInBounds_toArray, List.set_cons_zero, List.set_cons_succ]
                        refine wpAnyH_done (by kernel_rfl) ?_ _
                        go_wp2_with fail
                        go_meet
                        exact ⟨rfl, HB49⟩
                      exact AllReadyH.nil
                    exact AllReadyH.nil
                  exact AllReadyH.nil
                exact AllReadyH.nil
              exact AllReadyH.nil
            exact AllReadyH.nil
          refine AllReadyH.cons (o := { dst := some 45, op := Op.buildSlice 23 2 #[(0, Operand.const (Value.int IntKind.u8 0)), (1, Operand.const (Value.int IntKind.u8 0))], type := 23, pos := "ref.go:109", after := #[], guard := none }) rfl (fun K hK => ?_) ?_
          · go_simp
            refine hK.out _ _ (HK.out _ ((Below.refl _ _).drew.alloc (Nat.le_refl _) _)) (fun hHeld => ?_)
            clear hK K
            try simp only [Act.put, List.setIfInBounds_toArray, List.set_cons_zero, List.set_cons_succ]
            refine wpAnyH_ready (rs := [3]) (by kernel_rfl) (by simp) ?_
            refine AllReadyH.cons (o := { dst := some 42, op := Op.buildSlice 23 0 #[], type := 23, pos := "ref.go:109", after := #[], guard := none }) rfl (fun K hK => ?_) ?_
            · go_simp
              refine hK.out _ _ (HK.out _ Kc.out.1) (fun hHeld => ?_)
              clear hK K
              try simp only [Act.put, List.setIfInBounds_toArray, List.set_cons_zero, List.set_cons_succ]
              refine wpAnyH_ready (rs := [5]) (by kernel_rfl) (by simp) ?_
              refine AllReadyH.cons (o := { dst := some 44, op := Op.call { callee := Callee.builtin Builtin.append, args := #[Operand.tmp 42, Operand.tmp 43], argTypes := #[23, 23] }, type := 23, pos := "ref.go:109", after := #[{ on := 3, ground := Ground.data }, { on := 4, ground := Ground.data }], guard := none }) rfl (fun K hK => ?_) ?_
              · refine step_append_rd rfl (.tmp 42) (.tmp 43) _ rfl u4.heap.size 5 i0 Try.underlying23 HI0.out HZ0.out HZ1.out HZ2.out (n := 0) (f := (fun _ => 0)) rfl Kc.out.2.1 rfl (HEAD.out _ Kc.out.1) (by omega) Kc.out.1.size ?_
                intro A44 c44 u44 hown44 hg44
                have HB44 : Hid (Below u4.heap.size u4 u44) := (Gc.out _ hg44).1
                have HO44 := Lib.hid hown44
                have HR44 := Lib.hid (Gc.out _ hg44).2
                clear hown44 hg44
                refine hK.out _ _ (HK.out _ HB44.out) (fun hHeld => ?_)
                clear hK K
                try simp only [Act.put, List.setIfInBounds_toArray, List.set_cons_zero, List.set_cons_succ]
                refine wpAnyH_ready (rs := [7]) (by kernel_rfl) (by simp) ?_
                refine AllReadyH.cons (o := { dst := some 46, op := Op.call { callee := Callee.builtin Builtin.append, args := #[Operand.tmp 44, Operand.tmp 45], argTypes := #[23, 23] }, type := 23, pos := "ref.go:109", after := #[{ on := 5, ground := Ground.data }, { on := 6, ground := Ground.data }, { on := 5, ground := Ground.chain }], guard := none }) rfl (fun K hK => ?_) ?_
                · refine step_append_rd rfl (.tmp 44) (.tmp 45) _ rfl u4.heap.size 5 i0 Try.underlying23 HI0.out HZ0.out HZ1.out HZ2.out rfl HO44.out rfl HR44.out (by omega) HB44.out.size ?_
                  intro A46 c46 u46 hown46 hg46
                  have HB46 : Hid (Below u4.heap.size u4 u46) := HB44.out.grown hg46 HB44.out.size (fun k hk => HO44.out.at_ k hk)
                  have HO46 := Lib.hid hown46
                  clear hown46 hg46
                  refine hK.out _ _ (HK.out _ HB46.out) (fun hHeld => ?_)
                  clear hK K
                  try simp only [Act.put, List.setIfInBounds_toArray, List.set_cons_zero, List.set_cons_succ]
                  refine wpAnyH_ready (rs := [9]) (by kernel_rfl) (by simp) ?_
                  refine AllReadyH.cons (o := { dst := some 48, op := Op.call { callee := Callee.builtin Builtin.append, args := #[Operand.tmp 46, Operand.tmp 47], argTypes := #[23, 23] }, type := 23, pos := "ref.go:109", after := #[{ on := 7, ground := Ground.data }, { on := 8, ground := Ground.data }, { on := 7, ground := Ground.chain }], guard := none }) rfl (fun K hK => ?_) ?_
                  · refine step_append_rd rfl (.tmp 46) (.tmp 47) _ rfl u4.heap.size 5 i0 Try.underlying23 HI0.out HZ0.out HZ1.out HZ2.out rfl HO46.out rfl (PAY.out _ HB46.out) (by omega) HB46.out.size ?_
                    intro A48 c48 u48 hown48 hg48
                    have HB48 : Hid (Below u4.heap.size u4 u48) := HB46.out.grown hg48 HB46.out.size (fun k hk => HO46.out.at_ k hk)
                    have HO48 : Hid (Rd u48 u48.heap.size A48 (8 + n) (udpB sp dp (8 + (n : Int)) 0 f)) := Lib.hid (by
                      have q := hown48.rd
                      rw [show 0 + 6 + 2 + n = (8 + n) by omega] at q
                      exact q.same fun k hk => by
                        have t := udp_told (n := n) (su := 0) f h1 h2 (by omega : 0 ≤ (8 + (n : Int)) ∧ (8 + (n : Int)) ≤ 65535) (p := two 0 0) rfl rfl k hk
                        rw [cat_zero]
                        exact t)
                    clear hown48 hg48
                    refine hK.out _ _ (HK.out _ HB48.out) (fun hHeld => ?_)
                    clear hK K
                    try simp only [Act.put, List.setIfInBounds_toArray, List.set_cons_zero, List.set_cons_succ]
                    refine wpAnyH_ready (rs := [10]) (by kernel_rfl) (by simp) ?_
                    refine AllReadyH.cons (o := { dst := some 49, op := Op.call { callee := Callee.value (Operand.func 21), args := #[Operand.tmp 39, Operand.tmp 40, Operand.tmp 41, Operand.const (Value.int IntKind.u8 17), Operand.tmp 48], argTypes := #[4, 22, 22, 5, 23] }, type := 25, pos := "ref.go:109", after := #[{ on := 0, ground := Ground.data }, { on := 1, ground := Ground.data }, { on := 2, ground := Ground.data }, { on := 9, ground := Ground.data }, { on := 9, ground := Ground.chain }], guard := none }) rfl (fun K hK => ?_) ?_
                    · go_simp
                      go_at_call 21
                      refine (HSO.out _ _ _ _ (by omega) HO48.out).mono ?_
                      rintro e u49 ⟨rfl, hb49⟩
                      have HB49 : Hid (Below u4.heap.size u4 u49) := HB48.out.trans (hb49.mono HB48.out.size)
                      clear hb49
                      try go_wp2_with fail
                      refine hK.out _ _ (HK.out _ HB49.out) (fun hHeld => ?_)
                      clear hK K
                      try simp only [Act.put, List.setIfInBounds_toArray, List.set_cons_zero, List.set_cons_succ]
                      refine wpAnyH_ready (rs := [11]) (by kernel_rfl) (by simp) ?_
                      refine AllReadyH.cons (o := { dst := some 13, op := Op.assign (Operand.tmp 49), type := 25, pos := "ref.go:109", after := #[{ on := 10, ground := Ground.data }, { on := 10, ground := Ground.chain }, { on := 0, ground := Ground.phase }, { on := 1, ground := Ground.phase }, { on := 2, ground := Ground.phase }, { on := 3, ground := Ground.phase }, { on := 4, ground := Ground.phase }, { on := 5, ground := Ground.phase }, { on := 6, ground := Ground.phase }, { on := 7, ground := Ground.phase }, { on := 8, ground := Ground.phase }, { on := 9, ground := Ground.phase }, { on := 10, ground := Ground.phase }], guard := none }) rfl (fun K hK => ?_) ?_
                      · go_simp
                        refine hK.out _ _ (HK.out _ HB49.out) (fun hHeld => ?_)
                        clear hK K
                        try simp only [Act.put, List.setIfInBounds_toArray, List.set_cons_zero, List.set_cons_succ]
                        refine wpAnyH_done (by kernel_rfl) ?_ _
                        go_wp2_with fail
                        go_meet
                        exact ⟨rfl, HB49⟩
                      exact AllReadyH.nil
                    exact AllReadyH.nil
                  exact AllReadyH.nil
                exact AllReadyH.nil
              exact AllReadyH.nil
            exact AllReadyH.nil
          exact AllReadyH.nil
        case rest =>
        obtain ⟨rfl, HBc⟩ := hcut
        have HHc := Lib.hid (HH5.out.step HBc.out)
        clear HK Ka Kb Kc Ga Gb Gc HEAD PAY HSO HBc HH5 hls16 hld16 hund
        go_upto_if 51 with fail
        by_cases c0 : C = 0
        · have c0' : (C == 0) = true := by simpa using c0
          have HC0 := Lib.hid c0
          clear c0
          have zx : IntKind.u32.wrap 65535 = 65535 := by rw [IntKind.wrap_u32']; omega
          go_wp2_with fail
          go_at_call 23
          refine (rlay2 (w.heap.size + 1 + 1 + 1) A4 6 c4 _ 65535 8 (by omega) ⟨by omega, by omega⟩ (by omega) wc HHc.out.own HHc.out.box.size).mono ?_
          rintro e v6w ⟨A16, c16, rfl, ho16, hg16, _⟩
          have HH16 := Lib.hid (HHc.out.grow ho16 hg16)
          clear ho16 hg16 zx
          go_wp2_with (first
            | (at_builtin
               refine wpList_append_rd rfl (.tmp 55) (.tmp 56) _ rfl (w.heap.size + 1 + 1 + 1) 5 i0 Try.underlying23 HI0.out HZ0.out HZ1.out HZ2.out rfl HH16.out.own rfl (HR.out.keep HH16.out.box.below) (by omega) HH16.out.box.size ?_
               intro A17 c17 u17 hown17 hg17 _
               have HH17 := Lib.hid (HH16.out.grow hown17 hg17)
               clear hown17 hg17))
          go_ret2
          obtain ⟨l0, l1⟩ := lay_two (su := 65535) (by omega)
          refine .inr ⟨by first | rfl | exact hRe, A17, c17, rfl, ?_, HH17.out.box.below⟩
          rw [show udpS false (psq true s d 17 (8 + n)) (udpB sp dp (8 + (n : Int)) 0 f) (8 + n) = 65535 from by unfold udpS; rw [if_neg (by decide), if_pos (HCC.out.symm.trans HC0.out)]]
          exact (HH17.out.own.le (by omega)).same fun k hk => udp_told f h1 h2 (by omega) l0 l1 k (by omega)
        · have c0' : (C == 0) = false := by simpa using c0
          have HC0 : Hid (rgt (psq true s d 17 (8 + n)) (udpB sp dp (8 + (n : Int)) 0 f) (8 + n) ≠ 0) := Lib.hid (by rw [← HCC.out]; exact c0)
          clear c0
          have zx : IntKind.u32.wrap C = C := by rw [IntKind.wrap_u32']; omega
          go_wp2_with fail
          go_at_call 23
          refine (rlay2 (w.heap.size + 1 + 1 + 1) A4 6 c4 _ C 8 (by omega) ⟨by omega, by omega⟩ (by omega) wc HHc.out.own HHc.out.box.size).mono ?_
          rintro e v6w ⟨A16, c16, rfl, ho16, hg16, _⟩
          have HH16 := Lib.hid (HHc.out.grow ho16 hg16)
          clear ho16 hg16 zx
          go_wp2_with (first
            | (at_builtin
               refine wpList_append_rd rfl (.tmp 55) (.tmp 56) _ rfl (w.heap.size + 1 + 1 + 1) 5 i0 Try.underlying23 HI0.out HZ0.out HZ1.out HZ2.out rfl HH16.out.own rfl (HR.out.keep HH16.out.box.below) (by omega) HH16.out.box.size ?_
               intro A17 c17 u17 hown17 hg17 _
               have HH17 := Lib.hid (HH16.out.grow hown17 hg17)
               clear hown17 hg17))
          go_ret2
          obtain ⟨l0, l1⟩ := lay_two (su := C) (by omega)
          refine .inr ⟨by first | rfl | exact hRe, A17, c17, rfl, ?_, HH17.out.box.below⟩
          rw [show udpS false (psq true s d 17 (8 + n)) (udpB sp dp (8 + (n : Int)) 0 f) (8 + n) = C from by unfold udpS; rw [if_neg (by decide), if_neg HC0.out]; exact HCC.out.symm]
          exact (HH17.out.own.le (by omega)).same fun k hk => udp_told f h1 h2 (by omega) l0 l1 k (by omega)
  · cases v6
    · have HOK : Hid (¬ (false && true) = true) := Lib.hid (by simp)
      go_upto_if 18 with fail
      go_upto_if 22 with fail
      by_cases cL : 1660 < (8 + n)
      · have cL' : 8 + (n : Int) > 1660 := by omega
        have hRe : R = 3 := HRE.out.trans (by unfold udpX; rw [if_neg HOK.out, if_pos (by omega)])
        go_wp2_with fail
        go_ret2
        refine .inl ⟨by first | (rw [hRe]; decide) | decide, none, 0, by first | rfl | (rw [hRe] <;> rfl), Own.nil_ _ _ _ _, HX1.out.below⟩
      · have hm : (8 + n) ≤ 1660 := by omega
        have hRe : R = 0 := HRE.out.trans (by unfold udpX; rw [if_neg HOK.out, if_neg (by omega)])
        have cL' : 8 + (n : Int) ≤ 1660 := by omega
        have y0 : IntKind.u32.wrap sp = sp := by rw [IntKind.wrap_u32']; omega
        have y1 : IntKind.u32.wrap dp = dp := by rw [IntKind.wrap_u32']; omega
        have y3 : IntKind.i64.wrap (8 + (n : Int)) = 8 + (n : Int) := by rw [IntKind.wrap_i64]; omega
        have y2 : IntKind.u32.wrap (8 + (n : Int)) = 8 + (n : Int) := by rw [IntKind.wrap_u32']; omega
        have HL2 : Hid (∀ W, Below (w.heap.size + 1 + 1 + 1) u1 W → Calls Try.prog 23 #[.slice none 0 0, .int .u32 sp, .int .i64 2] W fun e w' => ∃ A' c', e = .returned (.slice A' 2 c') ∧ Own w' (w.heap.size + 1 + 1 + 1) 5 A' 2 c' (cat 0 (fun _ => 0) (layb sp 2)) ∧ W.grownBy w' (Value.ownBlock (.slice none 0 0)) ∧ (∀ q, Value.ownBlock (.slice A' 2 c') = some q → W.heap.size ≤ q ∨ Value.ownBlock (.slice none 0 0) = some q)) := Lib.hid fun W hW =>
          rlay2 (w.heap.size + 1 + 1 + 1) none 0 0 (fun _ => 0) sp 2 (by omega) ⟨by omega, by omega⟩ (by omega) W (Own.nil_ _ _ _ _) (Nat.le_trans HX1.out.size hW.size)
        have HK : Hid (∀ W, Below (w.heap.size + 1 + 1 + 1) u1 W → W.cell? ⟨w.heap.size + 1 + 1, 0, none⟩ = some (.int .u16 sp) ∧ W.cell? ⟨w.heap.size + 1 + 1, 1, none⟩ = some (.int .u16 dp)) := Lib.hid fun W hW => ⟨(hW.cell (p := ⟨w.heap.size + 1 + 1, 0, none⟩) (show w.heap.size + 1 + 1 < (w.heap.size + 1 + 1 + 1) by omega)).trans (blk_cell HX1.out.b2 0), (hW.cell (p := ⟨w.heap.size + 1 + 1, 1, none⟩) (show w.heap.size + 1 + 1 < (w.heap.size + 1 + 1 + 1) by omega)).trans (blk_cell HX1.out.b2 1)⟩
        go_upto_region 5 with fail
        go_region_held3 (fun w' => w'.cell? ⟨w.heap.size + 1 + 1, 0, none⟩ = some (.int .u16 sp) ∧ w'.cell? ⟨w.heap.size + 1 + 1, 1, none⟩ = some (.int .u16 dp)) (first | (with_reducible exact HK.out _ (Below.refl _ _)) | (with_reducible exact HK.out _ (Below.refl _ _).drew) | (with_reducible exact HK.out _ HB2.out) | (with_reducible exact HK.out _ HB3.out) | (with_reducible exact HK.out _ HB4.out))
          (first
          | (go_at_call 23
             with_reducible refine (HL2.out _ (Below.refl _ _).drew).mono ?_
             rintro e u2 ⟨A2, c2, rfl, ho2, hg2, _⟩
             have HB2 : Hid (Below (w.heap.size + 1 + 1 + 1) u1 u2) := Lib.hid ((Below.refl (w.heap.size + 1 + 1 + 1) u1).drew.grown hg2 HX1.out.size (fun k hk => by simp [Value.ownBlock] at hk))
             have HO2 := Lib.hid ho2
             clear ho2 hg2)
          | (go_at_call 23
             with_reducible refine (rlay2 (w.heap.size + 1 + 1 + 1) A2 2 c2 (cat 0 (fun _ => 0) (layb sp 2)) dp 4 (by omega) ⟨by omega, by omega⟩ (by omega) _ HO2.out (Nat.le_trans HX1.out.size HB2.out.size)).mono ?_
             rintro e u3 ⟨A3, c3, rfl, ho3, hg3, _⟩
             have HB3 : Hid (Below (w.heap.size + 1 + 1 + 1) u1 u3) := Lib.hid (HB2.out.grown hg3 (Nat.le_trans HX1.out.size HB2.out.size) (fun k hk => HO2.out.at_ k hk))
             have HO3 := Lib.hid ho3
             clear ho3 hg3)
          | (go_at_call 23
             with_reducible refine (rlay2 (w.heap.size + 1 + 1 + 1) A3 4 c3 (cat 2 (cat 0 (fun _ => 0) (layb sp 2)) (layb dp 2)) (8 + (n : Int)) 6 (by omega) ⟨by omega, by omega⟩ (by omega) _ HO3.out (Nat.le_trans HX1.out.size HB3.out.size)).mono ?_
             rintro e u4 ⟨A4, c4, rfl, ho4, hg4, _⟩
             have HB4 : Hid (Below (w.heap.size + 1 + 1 + 1) u1 u4) := Lib.hid (HB3.out.grown hg4 (Nat.le_trans HX1.out.size HB3.out.size) (fun k hk => HO3.out.at_ k hk))
             have HO4 := Lib.hid ho4
             clear ho4 hg4))
        have HH5 : Hid (WrH w u4 s d (udpc sp dp true) 34 A4 6 c4 (h6 sp dp (8 + (n : Int)))) := ⟨HX1.out.keep HB4.out, HO4.out⟩
        clear HL2 HO2 HO3 HO4 HB2 HB3 HB4 HK a2 HX1 y0 y1 y2 y3
        have b2 : u4.cell? ⟨w.heap.size + 1 + 1, 2, none⟩ = some (.bool true) := blk_cell HH5.out.box.b2 2
        go_upto_if 38 with fail
        clear b2
        have zx : IntKind.u32.wrap 0 = 0 := by rw [IntKind.wrap_u32']; omega
        go_wp2_with fail
        go_at_call 23
        refine (rlay2 (w.heap.size + 1 + 1 + 1) A4 6 c4 _ 0 8 (by omega) ⟨by omega, by omega⟩ (by omega) u4 HH5.out.own HH5.out.box.size).mono ?_
        rintro e v6w ⟨A16, c16, rfl, ho16, hg16, _⟩
        have HH16 := Lib.hid (HH5.out.grow ho16 hg16)
        clear ho16 hg16 zx
        go_wp2_with (first
          | (at_builtin
             refine wpList_append_rd rfl (.tmp 55) (.tmp 56) _ rfl (w.heap.size + 1 + 1 + 1) 5 i0 Try.underlying23 HI0.out HZ0.out HZ1.out HZ2.out rfl HH16.out.own rfl (HR.out.keep HH16.out.box.below) (by omega) HH16.out.box.size ?_
             intro A17 c17 u17 hown17 hg17 _
             have HH17 := Lib.hid (HH16.out.grow hown17 hg17)
             clear hown17 hg17))
        go_ret2
        obtain ⟨l0, l1⟩ := lay_two (su := 0) (by omega)
        refine .inr ⟨by first | rfl | exact hRe, A17, c17, rfl, ?_, HH17.out.box.below⟩
        rw [show udpS true (psq false s d 17 (8 + n)) (udpB sp dp (8 + (n : Int)) 0 f) (8 + n) = 0 from rfl]
        exact (HH17.out.own.le (by omega)).same fun k hk => udp_told f h1 h2 (by omega) l0 l1 k (by omega)
    · have hRe : R = 2 := HRE.out.trans (by first | rfl | simp [udpX])
      go_wp2_with fail
      go_ret2
      refine .inl ⟨by first | (rw [hRe]; decide) | decide, none, 0, by first | rfl | (rw [hRe] <;> rfl), Own.nil_ _ _ _ _, HX1.out.below⟩
end Go.Proofs.Ytmcapemlicjfjaa
