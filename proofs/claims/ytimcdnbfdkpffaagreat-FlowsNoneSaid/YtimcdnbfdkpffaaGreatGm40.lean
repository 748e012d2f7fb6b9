import Derived.Test.YtimcdnbfdkpffaaGreatGm36
import Derived.Test.YtimcdnbfdkpffaaGreatGm25
import Derived.Test.YtimcdnbfdkpffaaGreatGm31
/- Stage 16: the landed flows: begin. -/
namespace Go.Proofs.YtimcdnbfdkpffaaGreat
set_option maxRecDepth 100000
open Go.RowKit Go.Shelf
/-- What begin's region has done so far: armed or not, the handle's variable laid or not, stored into or not. -/
structure BgI (p pw pg b n c o1 o2 o3 o4 : Nat) (l : List Fr) (W0 W1 : Wh) (G : Gr) (A B : Nat → Prop) (u : World) (hc : Array Value) (ar al sto : Bool) (V : World) (b7 : Nat) (A' : Nat → Prop) : Prop where
  fx : FX V p pw pg b n c o1 o2 o3 o4 l (if ar then W1 else W0) G A' B
  ex : ExtG (FF p b A B) (FF p b A' B) u V
  no : al = true → u.heap.size ≤ b7 ∧ ¬ FF p b A' B b7 ∧ V.heap[b7]? = some (.cells (if sto then hc else #[.int .i64 0, .int .u64 0]) 95 (0, 0))
section
variable {w V V' : World} {p pw pg b n c o1 o2 o3 o4 : Nat} {l lr : List Fr} {W0 W1 Wr : Wh} {G Gr : Gr} {A B A' A2 : Nat → Prop} {u : World} {hc : Array Value} {ar al sto : Bool} {b7 : Nat}
theorem BgI.step (h : BgI p pw pg b n c o1 o2 o3 o4 l W0 W1 G A B u hc ar al sto V b7 A') (hb : Below V.heap.size V V') : BgI p pw pg b n c o1 o2 o3 o4 l W0 W1 G A B u hc ar al sto V' b7 A' :=
  ⟨h.fx.step hb, h.ex.trans (ExtG.of_below hb), fun q => ⟨(h.no q).1, (h.no q).2.1, (hb.block _ (lt_heap (h.no q).2.2)).trans (h.no q).2.2⟩⟩
theorem BgI.arm (h : BgI p pw pg b n c o1 o2 o3 o4 l W0 W1 G A B u hc false al sto V b7 A') (hx : FX V' p pw pg b n c o1 o2 o3 o4 l W1 G A2 B) (he : ExtG (FF p b A' B) (FF p b A2 B) V V') : BgI p pw pg b n c o1 o2 o3 o4 l W0 W1 G A B u hc true al sto V' b7 A2 :=
  ⟨hx, h.ex.trans he, fun q => by
    obtain ⟨h1, h2, h3⟩ := h.no q
    have hl := lt_heap h3
    refine ⟨h1, fun e => ?_, (he.kept.block b7 hl h2).trans h3⟩
    rcases he.sub b7 e with r | r
    · exact h2 r
    · omega⟩
theorem BgI.alloc (h : BgI p pw pg b n c o1 o2 o3 o4 l W0 W1 G A B u hc ar al false V b7 A') : BgI p pw pg b n c o1 o2 o3 o4 l W0 W1 G A B u hc ar true false (V.alloc (.cells #[.int .i64 0, .int .u64 0] 95)) V.heap.size A' :=
  ⟨h.fx.step (below_alloc V _), h.ex.trans (ExtG.of_below (below_alloc V _)), fun _ => ⟨h.ex.kept.size, fun e => absurd (h.fx.old _ e) (by omega), heap_alloc_new V _⟩⟩
theorem BgI.laid (h : BgI p pw pg b n c o1 o2 o3 o4 l W0 W1 G A B u hc ar true false V b7 A') : BgI p pw pg b n c o1 o2 o3 o4 l W0 W1 G A B u hc ar true true (V.setRow b7 hc) b7 A' := by
  obtain ⟨h1, h2, h3⟩ := h.no rfl
  have hk : Kept (fun k => k = b7) V (V.setRow b7 hc) := (Kept.refl (fun k => k = b7) V).setRow (.inl rfl) hc
  exact ⟨h.fx.keep hk fun k q e => h2 (by rw [← show k = b7 from e]; exact q), ⟨fun k q => by
    rcases h.ex.sub k q with r | r
    · exact .inl r
    · exact .inr ⟨r.1, Nat.lt_of_lt_of_le r.2 hk.size⟩, h.ex.kept.setRow (.inr h1) hc⟩, fun _ => ⟨h1, h2, setRow_heap _ b7 _ hc _ _ h3⟩⟩
set_option maxHeartbeats 4000000 in
theorem fbegin_any (h : FX w p pw pg b n c o1 o2 o3 o4 l W0 G A B) {C C6 : Array Value} {H st D i : Nat} {hi hk er res : Int} (hC : C.size = 42) (hst : C[41]? = some (.int .u8 (st : Int)))
    (hen : ∀ V A', FX V p pw pg b n c o1 o2 o3 o4 l W0 G A' B → Calls Tryz.prog 60 #[.pointer (some ⟨p, 0, none⟩), .int .u8 (st : Int)] V (ret (.int .u64 (D : Int)) V))
    (har : ∀ V A', FX V p pw pg b n c o1 o2 o3 o4 l W0 G A' B → Calls Tryz.prog 97 #[.pointer (some ⟨pw, 0, none⟩), .int .u64 (D : Int), .int .u64 (H : Int)] V fun e V' => e = .returned (.tuple #[.agg #[.int .i64 hi, .int .u64 hk], .int .i64 er]) ∧ ∃ A2, FX V' p pw pg b n c o1 o2 o3 o4 l W1 G A2 B ∧ ExtG (FF p b A' B) (FF p b A2 B) V V')
    (hcase : (er = 9 ∧ Wr = W1 ∧ Gr = G ∧ lr = l ∧ res = 9) ∨ (er = 0 ∧ hi = (i : Int) ∧ i < n ∧ n ≤ 65536 ∧
      (∀ V A', FX V p pw pg b n c o1 o2 o3 o4 l W1 G A' B → Calls Tryz.prog 98 #[.pointer (some ⟨pg, 0, none⟩), .agg #[.int .u64 (H : Int), .int .u32 (i : Int)]] V fun e V' => e = .returned (.int .i64 res) ∧ ∃ B', FX V' p pw pg b n c o1 o2 o3 o4 l W1 Gr A' B' ∧ ExtG (FF p b A' B) (FF p b A' B') V V') ∧
      ((res = 9 ∧ lr = l ∧ ∀ V A' B', FX V p pw pg b n c o1 o2 o3 o4 l W1 Gr A' B' → Calls Tryz.prog 44 #[.pointer (some ⟨pw, 0, none⟩), .agg #[.int .i64 (i : Int), .int .u64 hk]] V fun e V' => ∃ ce, e = .returned (.int .i64 ce) ∧ ∃ A2, FX V' p pw pg b n c o1 o2 o3 o4 l Wr Gr A2 B' ∧ ExtG (FF p b A' B') (FF p b A2 B') V V') ∨
       (res = 0 ∧ Wr = W1 ∧ laid C 0 [.int .i64 (i : Int), .int .u64 hk] = C6 ∧ C6.size = 42 ∧ C6.all (·.oneCell') = true ∧ ∀ y, prow lr y = if y = i then C6 else prow l y)))) :
    Calls Tryz.prog 52 #[.pointer (some ⟨p, 0, none⟩), .int .u64 (H : Int), .agg C] w fun e w' => e = .returned (.int .i64 res) ∧ ∃ A' B', FX w' p pw pg b n c o1 o2 o3 o4 lr Wr Gr A' B' ∧ ExtG (FF p b A B) (FF p b A' B') w w' := by
  have HB0 : Hid (Below w.heap.size w (w.alloc (.cells C 97))) := Lib.hid (below_alloc w _)
  have HM0 : Hid ((w.alloc (.cells C 97)).heap[w.heap.size]? = some (.cells C 97 (0, 0))) := Lib.hid (heap_alloc_new w _)
  have HX0 := Lib.hid (h.step HB0.out)
  have HB5 : Hid (¬ FF p b A B w.heap.size) := Lib.hid fun q => absurd (h.old _ q) (by omega)
  have HST := Lib.hid hst
  have HEN := Lib.hid hen
  have HAR := Lib.hid har
  have HCS := Lib.hid hC
  have HCASE := Lib.hid hcase
  have HEW : Hid (ExtG (FF p b A B) (FF p b A B) w (w.alloc (.cells C 97))) := Lib.hid (ExtG.of_below HB0.out)
  clear h hst hen har hC hcase
  go_enter Tryz.func52, Tryz.ntmps52
  go_upto_region 1 with fail
  change Code.wp _ _ _ _ (w.alloc (.cells C 97))
  generalize w.alloc (.cells C 97) = u0 at *
  obtain ⟨b5, hb5⟩ : ∃ r, r = w.heap.size := ⟨_, rfl⟩
  have HBW : Hid (w.heap.size ≤ b5) := Lib.hid (Nat.le_of_eq hb5.symm)
  rw [← hb5] at HM0 HB5 ⊢
  clear hb5
  rename_i Kc hKc
  refine wp_region_invG (fun a0 l9 a V => l9.size = 16 ∧ a0.tmps.size = 55 ∧ (l9.getD 9 false = true → l9.getD 7 false = true) ∧ (l9.getD 14 false = true → l9.getD 13 false = true) ∧ ∃ (b7 : Nat) (A' : Nat → Prop), BgI p pw pg b n c o1 o2 o3 o4 l W0 W1 G A B u0 #[.int .i64 hi, .int .u64 hk] (l9.getD 9 false) (l9.getD 13 false) (l9.getD 14 false) V b7 A' ∧ FrU a0 (kv ([(0, 11), (1, 12), (2, 13), (3, 14), (4, 15), (5, 16), (6, 17), (7, 18), (8, 19), (9, 20), (10, 10), (11, 21), (12, 22), (13, 7), (15, 8)] : List (Nat × Nat)) (fun i => ([.pointer (some ⟨p, 0, none⟩), .pointer (some ⟨p, 0, none⟩), .pointer (some ⟨p, 0, none⟩), .pointer (some ⟨pw, 0, none⟩), .pointer (some ⟨p, 0, none⟩), .pointer (some ⟨b5, 41, none⟩), .int .u8 (st : Int), .int .u64 (D : Int), .int .u64 (H : Int), .tuple #[.agg #[.int .i64 hi, .int .u64 hk], .int .i64 er], .tuple #[.agg #[.int .i64 hi, .int .u64 hk], .int .i64 er], .agg #[.int .i64 hi, .int .u64 hk], .int .i64 er, .pointer (some ⟨b7, 0, none⟩), undef, .int .i64 er][i]?).getD undef)) l9 a) ?_ ?_ ?_ ?_ ?_ ?_
  · kernel_rfl
  · exact fun _ _ _ h => h.1
  · kernel_rfl
  · refine ⟨by simp, rfl, fun h => (by rw [getD_none] at h; cases h), fun h => (by rw [getD_none] at h; cases h), 0, A, ?_, FrU.start _ _ _⟩
    rw [getD_none, getD_none, getD_none]
    exact ⟨HX0.out.step (Below.refl _ _).drew, ExtG.of_below (Below.refl _ _).drew, fun h => (by cases h)⟩
  · intro l9 a V i5 o hI ho hn hdep
    obtain ⟨hl, hsz, hd97, hd14, b7, A', hC, hF⟩ := hI
    have xp0 : V.cell? ⟨p, 0, none⟩ = some (.pointer (some ⟨pw, 0, none⟩)) := blk_cell hC.fx.blk 0
    have xb41 : V.cell? ⟨b5, 41, none⟩ = some (.int .u8 (st : Int)) := (blk_cell ((hC.ex.kept.block b5 (lt_heap HM0.out) HB5.out).trans HM0.out) 41).trans HST.out
    match i5, ho, hn with
    | 0, ho, hn =>
      simp only [List.getElem?_toArray, List.getElem?_cons_zero, Option.some.injEq] at ho
      subst ho
      refine ⟨rfl, ?_⟩
      have h0 : a.tmps[0]?.getD undef = .pointer (some ⟨p, 0, none⟩) := hF.baseK 0 rfl rfl
      exact owp_value (.pointer (some ⟨p, 0, none⟩)) (w' := V) (by clear hdep; go_simp) ⟨by simp [hl], hsz, (fun h => by rw [getD_set (by decide)] at h ⊢; exact hd97 h), (fun h => by rw [getD_set (by decide)] at h ⊢; exact hd14 h), b7, A', by rw [getD_set (by decide), getD_set (by decide), getD_set (by decide)]; exact hC, hF.putK 0 11 _ (by rw [hsz]; decide) rfl rfl⟩
    | 1, ho, hn =>
      simp only [List.getElem?_toArray, List.getElem?_cons_zero, List.getElem?_cons_succ, Option.some.injEq] at ho
      subst ho
      refine ⟨rfl, ?_⟩
      have h11 := hF.slotK (i := 0) (s := 11) (v := .pointer (some ⟨p, 0, none⟩)) rfl (hdep ⟨0, .data⟩ (by simp) rfl) rfl
      exact owp_value (.pointer (some ⟨p, 0, none⟩)) (w' := V) (by clear hdep; go_simp) ⟨by simp [hl], hsz, (fun h => by rw [getD_set (by decide)] at h ⊢; exact hd97 h), (fun h => by rw [getD_set (by decide)] at h ⊢; exact hd14 h), b7, A', by rw [getD_set (by decide), getD_set (by decide), getD_set (by decide)]; exact hC, hF.putK 1 12 _ (by rw [hsz]; decide) rfl rfl⟩
    | 2, ho, hn =>
      simp only [List.getElem?_toArray, List.getElem?_cons_zero, List.getElem?_cons_succ, Option.some.injEq] at ho
      subst ho
      refine ⟨rfl, ?_⟩
      have h12 := hF.slotK (i := 1) (s := 12) (v := .pointer (some ⟨p, 0, none⟩)) rfl (hdep ⟨1, .data⟩ (by simp) rfl) rfl
      exact owp_value (.pointer (some ⟨p, 0, none⟩)) (w' := V) (by clear hdep; go_simp) ⟨by simp [hl], hsz, (fun h => by rw [getD_set (by decide)] at h ⊢; exact hd97 h), (fun h => by rw [getD_set (by decide)] at h ⊢; exact hd14 h), b7, A', by rw [getD_set (by decide), getD_set (by decide), getD_set (by decide)]; exact hC, hF.putK 2 13 _ (by rw [hsz]; decide) rfl rfl⟩
    | 3, ho, hn =>
      simp only [List.getElem?_toArray, List.getElem?_cons_zero, List.getElem?_cons_succ, Option.some.injEq] at ho
      subst ho
      refine ⟨rfl, ?_⟩
      have h13 := hF.slotK (i := 2) (s := 13) (v := .pointer (some ⟨p, 0, none⟩)) rfl (hdep ⟨2, .data⟩ (by simp) rfl) rfl
      exact owp_value (.pointer (some ⟨pw, 0, none⟩)) (w' := V) (by clear hdep; go_simp) ⟨by simp [hl], hsz, (fun h => by rw [getD_set (by decide)] at h ⊢; exact hd97 h), (fun h => by rw [getD_set (by decide)] at h ⊢; exact hd14 h), b7, A', by rw [getD_set (by decide), getD_set (by decide), getD_set (by decide)]; exact hC, hF.putK 3 14 _ (by rw [hsz]; decide) rfl rfl⟩
    | 4, ho, hn =>
      simp only [List.getElem?_toArray, List.getElem?_cons_zero, List.getElem?_cons_succ, Option.some.injEq] at ho
      subst ho
      refine ⟨rfl, ?_⟩
      have h0 : a.tmps[0]?.getD undef = .pointer (some ⟨p, 0, none⟩) := hF.baseK 0 rfl rfl
      exact owp_value (.pointer (some ⟨p, 0, none⟩)) (w' := V) (by clear hdep; go_simp) ⟨by simp [hl], hsz, (fun h => by rw [getD_set (by decide)] at h ⊢; exact hd97 h), (fun h => by rw [getD_set (by decide)] at h ⊢; exact hd14 h), b7, A', by rw [getD_set (by decide), getD_set (by decide), getD_set (by decide)]; exact hC, hF.putK 4 15 _ (by rw [hsz]; decide) rfl rfl⟩
    | 5, ho, hn =>
      simp only [List.getElem?_toArray, List.getElem?_cons_zero, List.getElem?_cons_succ, Option.some.injEq] at ho
      subst ho
      refine ⟨rfl, ?_⟩
      have h5 : a.tmps[5]?.getD undef = .pointer (some ⟨b5, 0, none⟩) := hF.baseK 5 rfl rfl
      exact owp_value (.pointer (some ⟨b5, 41, none⟩)) (w' := V) (by clear hdep; go_simp) ⟨by simp [hl], hsz, (fun h => by rw [getD_set (by decide)] at h ⊢; exact hd97 h), (fun h => by rw [getD_set (by decide)] at h ⊢; exact hd14 h), b7, A', by rw [getD_set (by decide), getD_set (by decide), getD_set (by decide)]; exact hC, hF.putK 5 16 _ (by rw [hsz]; decide) rfl rfl⟩
    | 6, ho, hn =>
      simp only [List.getElem?_toArray, List.getElem?_cons_zero, List.getElem?_cons_succ, Option.some.injEq] at ho
      subst ho
      refine ⟨rfl, ?_⟩
      have h16 := hF.slotK (i := 5) (s := 16) (v := .pointer (some ⟨b5, 41, none⟩)) rfl (hdep ⟨5, .data⟩ (by simp) rfl) rfl
      exact owp_value (.int .u8 (st : Int)) (w' := V) (by clear hdep; go_simp) ⟨by simp [hl], hsz, (fun h => by rw [getD_set (by decide)] at h ⊢; exact hd97 h), (fun h => by rw [getD_set (by decide)] at h ⊢; exact hd14 h), b7, A', by rw [getD_set (by decide), getD_set (by decide), getD_set (by decide)]; exact hC, hF.putK 6 17 _ (by rw [hsz]; decide) rfl rfl⟩
    | 7, ho, hn =>
      simp only [List.getElem?_toArray, List.getElem?_cons_zero, List.getElem?_cons_succ, Option.some.injEq] at ho
      subst ho
      refine ⟨rfl, ?_⟩
      have h15 := hF.slotK (i := 4) (s := 15) (v := .pointer (some ⟨p, 0, none⟩)) rfl (hdep ⟨4, .data⟩ (by simp) rfl) rfl
      have h17 := hF.slotK (i := 6) (s := 17) (v := .int .u8 (st : Int)) rfl (hdep ⟨6, .data⟩ (by simp) rfl) rfl
      have h9 : l9.getD 9 false = false := by
        cases q : l9.getD 9 false with
        | false => rfl
        | true => have := hd97 q; rw [getD_tf hn] at this; cases this
      have hC2 := hC
      rw [h9] at hC2
      refine owp_call (fn := 60) (args := #[.pointer (some ⟨p, 0, none⟩), .int .u8 (st : Int)]) (by clear hdep; go_simp) ?_
      refine (HEN.out V A' hC2.fx).mono ?_
      rintro e w' ⟨rfl, hb⟩
      exact ⟨_, rfl, by simp [hl], hsz, (fun _ => getD_set_self hn), (fun h => by rw [getD_set (by decide)] at h ⊢; exact hd14 h), b7, A', by rw [getD_set (by decide), getD_set (by decide), getD_set (by decide)]; exact hC.step hb, hF.putK 7 18 _ (by rw [hsz]; decide) rfl rfl⟩
    | 8, ho, hn =>
      simp only [List.getElem?_toArray, List.getElem?_cons_zero, List.getElem?_cons_succ, Option.some.injEq] at ho
      subst ho
      refine ⟨rfl, ?_⟩
      have h1 : a.tmps[1]?.getD undef = .int .u64 (H : Int) := hF.baseK 1 rfl rfl
      exact owp_value (.int .u64 (H : Int)) (w' := V) (by clear hdep; go_simp) ⟨by simp [hl], hsz, (fun h => by rw [getD_set (by decide)] at h ⊢; exact hd97 h), (fun h => by rw [getD_set (by decide)] at h ⊢; exact hd14 h), b7, A', by rw [getD_set (by decide), getD_set (by decide), getD_set (by decide)]; exact hC, hF.putK 8 19 _ (by rw [hsz]; decide) rfl rfl⟩
    | 9, ho, hn =>
      simp only [List.getElem?_toArray, List.getElem?_cons_zero, List.getElem?_cons_succ, Option.some.injEq] at ho
      subst ho
      refine ⟨rfl, ?_⟩
      have h14 := hF.slotK (i := 3) (s := 14) (v := .pointer (some ⟨pw, 0, none⟩)) rfl (hdep ⟨3, .data⟩ (by simp) rfl) rfl
      have h18 := hF.slotK (i := 7) (s := 18) (v := .int .u64 (D : Int)) rfl (hdep ⟨7, .data⟩ (by simp) rfl) rfl
      have h19 := hF.slotK (i := 8) (s := 19) (v := .int .u64 (H : Int)) rfl (hdep ⟨8, .data⟩ (by simp) rfl) rfl
      have hC2 := hC
      rw [getD_tf hn] at hC2
      refine owp_call (fn := 97) (args := #[.pointer (some ⟨pw, 0, none⟩), .int .u64 (D : Int), .int .u64 (H : Int)]) (by clear hdep; go_simp) ?_
      refine (HAR.out V A' hC2.fx).mono ?_
      rintro e w' ⟨rfl, A2, hx, he⟩
      exact ⟨_, rfl, by simp [hl], hsz, (fun _ => by rw [getD_set (by decide)]; exact hdep ⟨7, .data⟩ (by simp) rfl), (fun h => by rw [getD_set (by decide)] at h ⊢; exact hd14 h), b7, A2, by rw [getD_set_self hn, getD_set (by decide), getD_set (by decide)]; exact hC2.arm hx he, hF.putK 9 20 _ (by rw [hsz]; decide) rfl rfl⟩
    | 10, ho, hn =>
      simp only [List.getElem?_toArray, List.getElem?_cons_zero, List.getElem?_cons_succ, Option.some.injEq] at ho
      subst ho
      refine ⟨rfl, ?_⟩
      have h20 := hF.slotK (i := 9) (s := 20) (v := .tuple #[.agg #[.int .i64 hi, .int .u64 hk], .int .i64 er]) rfl (hdep ⟨9, .data⟩ (by simp) rfl) rfl
      exact owp_value (.tuple #[.agg #[.int .i64 hi, .int .u64 hk], .int .i64 er]) (w' := V) (by clear hdep; go_simp) ⟨by simp [hl], hsz, (fun h => by rw [getD_set (by decide)] at h ⊢; exact hd97 h), (fun h => by rw [getD_set (by decide)] at h ⊢; exact hd14 h), b7, A', by rw [getD_set (by decide), getD_set (by decide), getD_set (by decide)]; exact hC, hF.putK 10 10 _ (by rw [hsz]; decide) rfl rfl⟩
    | 11, ho, hn =>
      simp only [List.getElem?_toArray, List.getElem?_cons_zero, List.getElem?_cons_succ, Option.some.injEq] at ho
      subst ho
      refine ⟨rfl, ?_⟩
      have h10 := hF.slotK (i := 10) (s := 10) (v := .tuple #[.agg #[.int .i64 hi, .int .u64 hk], .int .i64 er]) rfl (hdep ⟨10, .data⟩ (by simp) rfl) rfl
      exact owp_value (.agg #[.int .i64 hi, .int .u64 hk]) (w' := V) (by clear hdep; go_simp) ⟨by simp [hl], hsz, (fun h => by rw [getD_set (by decide)] at h ⊢; exact hd97 h), (fun h => by rw [getD_set (by decide)] at h ⊢; exact hd14 h), b7, A', by rw [getD_set (by decide), getD_set (by decide), getD_set (by decide)]; exact hC, hF.putK 11 21 _ (by rw [hsz]; decide) rfl rfl⟩
    | 12, ho, hn =>
      simp only [List.getElem?_toArray, List.getElem?_cons_zero, List.getElem?_cons_succ, Option.some.injEq] at ho
      subst ho
      refine ⟨rfl, ?_⟩
      have h10 := hF.slotK (i := 10) (s := 10) (v := .tuple #[.agg #[.int .i64 hi, .int .u64 hk], .int .i64 er]) rfl (hdep ⟨10, .data⟩ (by simp) rfl) rfl
      exact owp_value (.int .i64 er) (w' := V) (by clear hdep; go_simp) ⟨by simp [hl], hsz, (fun h => by rw [getD_set (by decide)] at h ⊢; exact hd97 h), (fun h => by rw [getD_set (by decide)] at h ⊢; exact hd14 h), b7, A', by rw [getD_set (by decide), getD_set (by decide), getD_set (by decide)]; exact hC, hF.putK 12 22 _ (by rw [hsz]; decide) rfl rfl⟩
    | 13, ho, hn =>
      simp only [List.getElem?_toArray, List.getElem?_cons_zero, List.getElem?_cons_succ, Option.some.injEq] at ho
      subst ho
      refine ⟨rfl, ?_⟩
      have h14 : l9.getD 14 false = false := by
        cases q : l9.getD 14 false with
        | false => rfl
        | true => have := hd14 q; rw [getD_tf hn] at this; cases this
      rw [h14] at hC
      have hF2 := hF.swapC (V' := (fun i => ([.pointer (some ⟨p, 0, none⟩), .pointer (some ⟨p, 0, none⟩), .pointer (some ⟨p, 0, none⟩), .pointer (some ⟨pw, 0, none⟩), .pointer (some ⟨p, 0, none⟩), .pointer (some ⟨b5, 41, none⟩), .int .u8 (st : Int), .int .u64 (D : Int), .int .u64 (H : Int), .tuple #[.agg #[.int .i64 hi, .int .u64 hk], .int .i64 er], .tuple #[.agg #[.int .i64 hi, .int .u64 hk], .int .i64 er], .agg #[.int .i64 hi, .int .u64 hk], .int .i64 er, .pointer (some ⟨V.heap.size, 0, none⟩), undef, .int .i64 er][i]?).getD undef)) (fun q hq => by
        match q, hq with
        | 0, hq => rfl
        | 1, hq => rfl
        | 2, hq => rfl
        | 3, hq => rfl
        | 4, hq => rfl
        | 5, hq => rfl
        | 6, hq => rfl
        | 7, hq => rfl
        | 8, hq => rfl
        | 9, hq => rfl
        | 10, hq => rfl
        | 11, hq => rfl
        | 12, hq => rfl
        | 13, hq => exact absurd hq (by rw [getD_tf hn]; exact Bool.false_ne_true)
        | 14, hq => rfl
        | 15, hq => rfl
        | q + 16, _ => rfl)
      exact owp_value (.pointer (some ⟨V.heap.size, 0, none⟩)) (w' := V.alloc (.cells #[.int .i64 0, .int .u64 0] 95)) (by clear hdep; go_simp) ⟨by simp [hl], hsz, (fun h => by rw [getD_set (by decide)] at h ⊢; exact hd97 h), (fun _ => getD_set_self hn), V.heap.size, A', by rw [getD_set (by decide), getD_set_self hn, getD_set (by decide), h14]; exact hC.alloc, hF2.putK 13 7 _ (by rw [hsz]; decide) rfl rfl⟩
    | 14, ho, hn =>
      simp only [List.getElem?_toArray, List.getElem?_cons_zero, List.getElem?_cons_succ, Option.some.injEq] at ho
      subst ho
      refine ⟨rfl, ?_⟩
      have h7 := hF.slotK (i := 13) (s := 7) (v := .pointer (some ⟨b7, 0, none⟩)) rfl (hdep ⟨13, .data⟩ (by simp) rfl) rfl
      have h21 := hF.slotK (i := 11) (s := 21) (v := .agg #[.int .i64 hi, .int .u64 hk]) rfl (hdep ⟨11, .data⟩ (by simp) rfl) rfl
      have h13 : l9.getD 13 false = true := hdep ⟨13, .data⟩ (by simp) rfl
      rw [h13, getD_tf hn] at hC
      obtain ⟨h71, h72, h73⟩ := hC.no rfl
      have hst := run_storeVar_row (P := Tryz.prog) V b7 95 95 #[.int .i64 0, .int .u64 0] #[.int .i64 hi, .int .u64 hk] h73 (by kernel_rfl) rfl (by simp [Value.oneCell'])
      refine owp_skip (w' := V.setRow b7 #[.int .i64 hi, .int .u64 hk]) ?_ ⟨by simp [hl], hsz, (fun h => by rw [getD_set (by decide)] at h ⊢; exact hd97 h), (fun _ => by rw [getD_set (by decide)]; exact hdep ⟨13, .data⟩ (by simp) rfl), b7, A', by rw [getD_set (by decide), getD_set (by decide), getD_set_self hn, h13]; exact hC.laid, hF.skip 14 (by simp [kv])⟩
      clear hdep
      simp only [execOp, Act.eval, Array.getD_eq_getD_getElem?, h7, h21, Instr.storeAt, Instr.sureAddr, Sem.run_bind, Sem.run_pure, Result.andThen_ok, hst]
    | 15, ho, hn =>
      simp only [List.getElem?_toArray, List.getElem?_cons_zero, List.getElem?_cons_succ, Option.some.injEq] at ho
      subst ho
      refine ⟨rfl, ?_⟩
      have h22 := hF.slotK (i := 12) (s := 22) (v := .int .i64 er) rfl (hdep ⟨12, .data⟩ (by simp) rfl) rfl
      exact owp_value (.int .i64 er) (w' := V) (by clear hdep; go_simp) ⟨by simp [hl], hsz, (fun h => by rw [getD_set (by decide)] at h ⊢; exact hd97 h), (fun h => by rw [getD_set (by decide)] at h ⊢; exact hd14 h), b7, A', by rw [getD_set (by decide), getD_set (by decide), getD_set (by decide)]; exact hC, hF.putK 15 8 _ (by rw [hsz]; decide) rfl rfl⟩
    | i5 + 16, ho, hn => simp at ho
  · intro l9 a V1 hI hall
    obtain ⟨_, _, _, _, b7, A', hC, hF⟩ := hI
    have hall : ∀ i, i < 16 → l9.getD i false = true := hall
    have ha := FrU.allQ (K := ([(0, 11), (1, 12), (2, 13), (3, 14), (4, 15), (5, 16), (6, 17), (7, 18), (8, 19), (9, 20), (10, 10), (11, 21), (12, 22), (13, 7), (15, 8)] : List (Nat × Nat))) (V := (fun i => ([.pointer (some ⟨p, 0, none⟩), .pointer (some ⟨p, 0, none⟩), .pointer (some ⟨p, 0, none⟩), .pointer (some ⟨pw, 0, none⟩), .pointer (some ⟨p, 0, none⟩), .pointer (some ⟨b5, 41, none⟩), .int .u8 (st : Int), .int .u64 (D : Int), .int .u64 (H : Int), .tuple #[.agg #[.int .i64 hi, .int .u64 hk], .int .i64 er], .tuple #[.agg #[.int .i64 hi, .int .u64 hk], .int .i64 er], .agg #[.int .i64 hi, .int .u64 hk], .int .i64 er, .pointer (some ⟨b7, 0, none⟩), undef, .int .i64 er][i]?).getD undef)) (BL := ([(0, 11, .pointer (some ⟨p, 0, none⟩)), (1, 12, .pointer (some ⟨p, 0, none⟩)), (2, 13, .pointer (some ⟨p, 0, none⟩)), (3, 14, .pointer (some ⟨pw, 0, none⟩)), (4, 15, .pointer (some ⟨p, 0, none⟩)), (5, 16, .pointer (some ⟨b5, 41, none⟩)), (6, 17, .int .u8 (st : Int)), (7, 18, .int .u64 (D : Int)), (8, 19, .int .u64 (H : Int)), (9, 20, .tuple #[.agg #[.int .i64 hi, .int .u64 hk], .int .i64 er]), (10, 10, .tuple #[.agg #[.int .i64 hi, .int .u64 hk], .int .i64 er]), (11, 21, .agg #[.int .i64 hi, .int .u64 hk]), (12, 22, .int .i64 er), (13, 7, .pointer (some ⟨b7, 0, none⟩)), (15, 8, .int .i64 er)] : List (Nat × Nat × Value))) hF rfl (n := 16) hall rfl
    subst ha
    rw [hall 9 (by decide), hall 13 (by decide), hall 14 (by decide)] at hC
    have HX1 := Lib.hid hC.fx
    have HE1 := Lib.hid (HEW.out.trans hC.ex)
    have HH1 : Hid (V1.heap[b7]? = some (.cells #[.int .i64 hi, .int .u64 hk] 95 (0, 0))) := Lib.hid (hC.no rfl).2.2
    have HB71 := Lib.hid (hC.no rfl).2.1
    have HB57 : Hid (b7 ≠ b5) := Lib.hid (by have h1 := (hC.no rfl).1; have h2 := lt_heap HM0.out; omega)
    have HB51 : Hid (¬ FF p b A' B b5) := Lib.hid fun q => by
      rcases hC.ex.sub b5 q with r | r
      · exact HB5.out r
      · have := lt_heap HM0.out
        omega
    have HM1 := Lib.hid ((hC.ex.kept.block b5 (lt_heap HM0.out) HB5.out).trans HM0.out)
    clear hF hall hC HX0 HAR HEN
    refine hKc _ _ ?_
    simp only [setAll, List.setIfInBounds_toArray, List.set_cons_succ, List.set_cons_zero]
    rcases HCASE.out with ⟨rfl, rfl, rfl, rfl, rfl⟩ | ⟨rfl, rfl, hin, hsm, hpu, hcs⟩
    · clear HCASE HM1 HH1
      go_wp2_with fail
      go_ret
      exact ⟨rfl, A', B, HX1.out, HE1.out⟩
    · have HIN := Lib.hid hin
      have HPU := Lib.hid hpu
      have zc : IntKind.u32.wrap (i : Int) = (i : Int) := by rw [IntKind.wrap_u32]; omega
      have a0 : (0 : Int) ≤ (i : Int) := by omega
      have a1 : (i : Int) < (n : Int) := by omega
      have a2 : ((i : Int)).toNat = i := by omega
      clear HCASE hin hsm hpu
      rcases hcs with ⟨rfl, rfl, hca⟩ | ⟨rfl, rfl, h6, h61, h62, hpr⟩
      · have HCA := Lib.hid hca
        clear hca
        go_upto_region 4 with fail
        have xp1 : V1.cell? ⟨p, 1, none⟩ = some (.pointer (some ⟨pg, 0, none⟩)) := blk_cell HX1.out.blk 1
        have HPL : Hid (p < V1.heap.size) := Lib.hid HX1.out.pold
        have HRL : Hid (b7 < V1.heap.size) := Lib.hid (lt_heap HH1.out)
        have xb70 : V1.cell? ⟨b7, 0, none⟩ = some (.int .i64 (i : Int)) := blk_cell HH1.out 0
        refine wp_region_grow (C := fun W => Below V1.heap.size V1 W) 9 55 [val (.pointer (some ⟨p, 0, none⟩)), val (.pointer (some ⟨p, 0, none⟩)), val (.pointer (some ⟨p, 1, none⟩)), val (.pointer (some ⟨pg, 0, none⟩)), val (.int .u64 (H : Int)), val (.pointer (some ⟨b7, 0, none⟩)), val (.int .i64 (i : Int)), val (.int .u32 (i : Int)), val (.agg #[.int .u64 (H : Int), .int .u32 (i : Int)])] (by kernel_rfl) rfl (by kernel_rfl) rfl ⟨stb_val _, stb_val _, stb_val _, stb_val _, stb_val _, stb_val _, stb_val _, stb_val _, stb_val _, trivial⟩ (Below.refl _ _).drew ?_ ?_
        · refine each_cons ?_ ?_
          · intro a W hW hd
            have h0 : a.tmps[0]?.getD undef = .pointer (some ⟨p, 0, none⟩) := slot_eq (hd 0 (by decide))
            exact grows_value _ hW (by simp [execOp, Act.eval, h0]) rfl
          refine each_cons ?_ ?_
          · intro a W hW hd
            have h26 : a.tmps[26]?.getD undef = .pointer (some ⟨p, 0, none⟩) := slot_eq (hd 26 (by decide))
            refine grows_value _ hW (?_ : _ = _) rfl
            clear hd
            go_simp
          refine each_cons ?_ ?_
          · intro a W hW hd
            have h27 : a.tmps[27]?.getD undef = .pointer (some ⟨p, 0, none⟩) := slot_eq (hd 27 (by decide))
            refine grows_value _ hW (?_ : _ = _) rfl
            clear hd
            go_simp
          refine each_cons ?_ ?_
          · intro a W hW hd
            have h28 : a.tmps[28]?.getD undef = .pointer (some ⟨p, 1, none⟩) := slot_eq (hd 28 (by decide))
            have xx : W.cell? ⟨p, 1, none⟩ = some (.pointer (some ⟨pg, 0, none⟩)) := (hW.cell (p := ⟨p, 1, none⟩) HPL.out).trans xp1
            refine grows_value _ hW (?_ : _ = _) rfl
            clear hd
            go_simp
          refine each_cons ?_ ?_
          · intro a W hW hd
            have h1 : a.tmps[1]?.getD undef = .int .u64 (H : Int) := slot_eq (hd 1 (by decide))
            exact grows_value _ hW (by simp [execOp, Act.eval, h1]) rfl
          refine each_cons ?_ ?_
          · intro a W hW hd
            have h7 : a.tmps[7]?.getD undef = .pointer (some ⟨b7, 0, none⟩) := slot_eq (hd 7 (by decide))
            refine grows_value _ hW (?_ : _ = _) rfl
            clear hd
            go_simp
          refine each_cons ?_ ?_
          · intro a W hW hd
            have h31 : a.tmps[31]?.getD undef = .pointer (some ⟨b7, 0, none⟩) := slot_eq (hd 31 (by decide))
            have xx : W.cell? ⟨b7, 0, none⟩ = some (.int .i64 (i : Int)) := (hW.cell (p := ⟨b7, 0, none⟩) HRL.out).trans xb70
            refine grows_value _ hW (?_ : _ = _) rfl
            clear hd
            go_simp
          refine each_cons ?_ ?_
          · intro a W hW hd
            have h32 : a.tmps[32]?.getD undef = .int .i64 (i : Int) := slot_eq (hd 32 (by decide))
            refine grows_value _ hW (?_ : _ = _) rfl
            clear hd
            go_simp
          refine each_cons ?_ ?_
          · intro a W hW hd
            have h30 : a.tmps[30]?.getD undef = .int .u64 (H : Int) := slot_eq (hd 30 (by decide))
            have h33 : a.tmps[33]?.getD undef = .int .u32 (i : Int) := slot_eq (hd 33 (by decide))
            refine grows_value _ hW (?_ : _ = _) rfl
            clear hd
            go_simp
          exact each_nil
        · refine behind_val rfl ?_
          refine behind_val rfl ?_
          refine behind_val rfl ?_
          refine behind_val rfl ?_
          refine behind_val rfl ?_
          refine behind_val rfl ?_
          refine behind_val rfl ?_
          refine behind_val rfl ?_
          refine behind_val rfl ?_
          refine behind_nil fun W3 hCW3 hFW3 => ?_
          simp only [Act.put, List.setIfInBounds_toArray, List.set_cons_succ, List.set_cons_zero, List.drop_succ_cons, List.drop_zero]
          clear hFW3 xp1 xb70
          have HX3 := Lib.hid (HX1.out.step hCW3)
          have HE3 := Lib.hid (HE1.out.trans (ExtG.of_below hCW3))
          have HM3 := Lib.hid ((hCW3.block b5 (lt_heap HM1.out)).trans HM1.out)
          have HH3 := Lib.hid ((hCW3.block b7 (lt_heap HH1.out)).trans HH1.out)
          clear hCW3 HX1 HE1 HM1 HH1 HPL HRL
          go_upto_region 6 with (first
            | (go_at_call 98
               refine (HPU.out _ A' HX3.out).mono ?_
               rintro e u4 ⟨rfl, B', hx, he⟩
               have HX4 := Lib.hid hx
               have HE4 := Lib.hid (HE3.out.trans he)
               have HM4 := Lib.hid ((he.kept.block b5 (lt_heap HM3.out) HB51.out).trans HM3.out)
               have HH4 := Lib.hid ((he.kept.block b7 (lt_heap HH3.out) HB71.out).trans HH3.out)
               have HB54 : Hid (¬ FF p b A' B' b5) := Lib.hid fun q => by
                 rcases he.sub b5 q with r | r
                 · exact HB51.out r
                 · have := lt_heap HM3.out
                   omega
               have HB74 : Hid (¬ FF p b A' B' b7) := Lib.hid fun q => by
                 rcases he.sub b7 q with r | r
                 · exact HB71.out r
                 · have := lt_heap HH3.out
                   omega
               clear hx he))
          have xp0 : u4.cell? ⟨p, 0, none⟩ = some (.pointer (some ⟨pw, 0, none⟩)) := blk_cell HX4.out.blk 0
          have xb71 : u4.cell? ⟨b7, 1, none⟩ = some (.int .u64 hk) := blk_cell HH4.out 1
          have HPL : Hid (p < u4.heap.size) := Lib.hid HX4.out.pold
          have HRL : Hid (b7 < u4.heap.size) := Lib.hid (lt_heap HH4.out)
          have xb70 : u4.cell? ⟨b7, 0, none⟩ = some (.int .i64 (i : Int)) := blk_cell HH4.out 0
          refine wp_region_grow (C := fun W => Below u4.heap.size u4 W) 5 55 [val (.pointer (some ⟨p, 0, none⟩)), val (.pointer (some ⟨p, 0, none⟩)), val (.pointer (some ⟨p, 0, none⟩)), val (.pointer (some ⟨pw, 0, none⟩)), val (.agg #[.int .i64 (i : Int), .int .u64 hk])] (by kernel_rfl) rfl (by kernel_rfl) rfl ⟨stb_val _, stb_val _, stb_val _, stb_val _, stb_val _, trivial⟩ (Below.refl _ _).drew ?_ ?_
          · refine each_cons ?_ ?_
            · intro a W hW hd
              have h0 : a.tmps[0]?.getD undef = .pointer (some ⟨p, 0, none⟩) := slot_eq (hd 0 (by decide))
              exact grows_value _ hW (by simp [execOp, Act.eval, h0]) rfl
            refine each_cons ?_ ?_
            · intro a W hW hd
              have h38 : a.tmps[38]?.getD undef = .pointer (some ⟨p, 0, none⟩) := slot_eq (hd 38 (by decide))
              refine grows_value _ hW (?_ : _ = _) rfl
              clear hd
              go_simp
            refine each_cons ?_ ?_
            · intro a W hW hd
              have h39 : a.tmps[39]?.getD undef = .pointer (some ⟨p, 0, none⟩) := slot_eq (hd 39 (by decide))
              refine grows_value _ hW (?_ : _ = _) rfl
              clear hd
              go_simp
            refine each_cons ?_ ?_
            · intro a W hW hd
              have h40 : a.tmps[40]?.getD undef = .pointer (some ⟨p, 0, none⟩) := slot_eq (hd 40 (by decide))
              have xx : W.cell? ⟨p, 0, none⟩ = some (.pointer (some ⟨pw, 0, none⟩)) := (hW.cell (p := ⟨p, 0, none⟩) HPL.out).trans xp0
              refine grows_value _ hW (?_ : _ = _) rfl
              clear hd
              go_simp
            refine each_cons ?_ ?_
            · intro a W hW hd
              have h7 : a.tmps[7]?.getD undef = .pointer (some ⟨b7, 0, none⟩) := slot_eq (hd 7 (by decide))
              have xx0 : W.cell? ⟨b7, 0, none⟩ = some (.int .i64 (i : Int)) := (hW.cell (p := ⟨b7, 0, none⟩) HRL.out).trans xb70
              have xx1 : W.cell? ⟨b7, 1, none⟩ = some (.int .u64 hk) := (hW.cell (p := ⟨b7, 1, none⟩) HRL.out).trans xb71
              refine grows_value _ hW (?_ : _ = _) rfl
              clear hd
              go_simp
            exact each_nil
          · refine behind_val rfl ?_
            refine behind_val rfl ?_
            refine behind_val rfl ?_
            refine behind_val rfl ?_
            refine behind_val rfl ?_
            refine behind_nil fun W5 hCW5 hFW5 => ?_
            simp only [Act.put, List.setIfInBounds_toArray, List.set_cons_succ, List.set_cons_zero, List.drop_succ_cons, List.drop_zero]
            clear hFW5 xp0 xb70 xb71
            have HX5 := Lib.hid (HX4.out.step hCW5)
            have HE5 := Lib.hid (HE4.out.trans (ExtG.of_below hCW5))
            clear hCW5 HX4 HE4
            go_wp2_with (first
              | (go_at_call 44
                 refine (HCA.out _ A' B' HX5.out).mono ?_
                 rintro e u6 ⟨ce, rfl, A2, hx, he⟩
                 have HX6 := Lib.hid hx
                 have HE6 := Lib.hid (HE5.out.trans he)
                 clear hx he))
            go_ret
            exact ⟨rfl, A2, B', HX6.out, HE6.out⟩
      · have HPR := Lib.hid hpr
        have HC6 := Lib.hid h6
        have HCS6 := Lib.hid h61
        have HCO6 := Lib.hid h62
        have HI42 : Hid ((Tryz.prog.info? 97).map (·.size) = some 42) := Lib.hid (by kernel_rfl)
        clear hpr h6 h61 h62
        go_upto_region 4 with fail
        have xp1 : V1.cell? ⟨p, 1, none⟩ = some (.pointer (some ⟨pg, 0, none⟩)) := blk_cell HX1.out.blk 1
        have HPL : Hid (p < V1.heap.size) := Lib.hid HX1.out.pold
        have HRL : Hid (b7 < V1.heap.size) := Lib.hid (lt_heap HH1.out)
        have xb70 : V1.cell? ⟨b7, 0, none⟩ = some (.int .i64 (i : Int)) := blk_cell HH1.out 0
        refine wp_region_grow (C := fun W => Below V1.heap.size V1 W) 9 55 [val (.pointer (some ⟨p, 0, none⟩)), val (.pointer (some ⟨p, 0, none⟩)), val (.pointer (some ⟨p, 1, none⟩)), val (.pointer (some ⟨pg, 0, none⟩)), val (.int .u64 (H : Int)), val (.pointer (some ⟨b7, 0, none⟩)), val (.int .i64 (i : Int)), val (.int .u32 (i : Int)), val (.agg #[.int .u64 (H : Int), .int .u32 (i : Int)])] (by kernel_rfl) rfl (by kernel_rfl) rfl ⟨stb_val _, stb_val _, stb_val _, stb_val _, stb_val _, stb_val _, stb_val _, stb_val _, stb_val _, trivial⟩ (Below.refl _ _).drew ?_ ?_
        · refine each_cons ?_ ?_
          · intro a W hW hd
            have h0 : a.tmps[0]?.getD undef = .pointer (some ⟨p, 0, none⟩) := slot_eq (hd 0 (by decide))
            exact grows_value _ hW (by simp [execOp, Act.eval, h0]) rfl
          refine each_cons ?_ ?_
          · intro a W hW hd
            have h26 : a.tmps[26]?.getD undef = .pointer (some ⟨p, 0, none⟩) := slot_eq (hd 26 (by decide))
            refine grows_value _ hW (?_ : _ = _) rfl
            clear hd
            go_simp
          refine each_cons ?_ ?_
          · intro a W hW hd
            have h27 : a.tmps[27]?.getD undef = .pointer (some ⟨p, 0, none⟩) := slot_eq (hd 27 (by decide))
            refine grows_value _ hW (?_ : _ = _) rfl
            clear hd
            go_simp
          refine each_cons ?_ ?_
          · intro a W hW hd
            have h28 : a.tmps[28]?.getD undef = .pointer (some ⟨p, 1, none⟩) := slot_eq (hd 28 (by decide))
            have xx : W.cell? ⟨p, 1, none⟩ = some (.pointer (some ⟨pg, 0, none⟩)) := (hW.cell (p := ⟨p, 1, none⟩) HPL.out).trans xp1
            refine grows_value _ hW (?_ : _ = _) rfl
            clear hd
            go_simp
          refine each_cons ?_ ?_
          · intro a W hW hd
            have h1 : a.tmps[1]?.getD undef = .int .u64 (H : Int) := slot_eq (hd 1 (by decide))
            exact grows_value _ hW (by simp [execOp, Act.eval, h1]) rfl
          refine each_cons ?_ ?_
          · intro a W hW hd
            have h7 : a.tmps[7]?.getD undef = .pointer (some ⟨b7, 0, none⟩) := slot_eq (hd 7 (by decide))
            refine grows_value _ hW (?_ : _ = _) rfl
            clear hd
            go_simp
          refine each_cons ?_ ?_
          · intro a W hW hd
            have h31 : a.tmps[31]?.getD undef = .pointer (some ⟨b7, 0, none⟩) := slot_eq (hd 31 (by decide))
            have xx : W.cell? ⟨b7, 0, none⟩ = some (.int .i64 (i : Int)) := (hW.cell (p := ⟨b7, 0, none⟩) HRL.out).trans xb70
            refine grows_value _ hW (?_ : _ = _) rfl
            clear hd
            go_simp
          refine each_cons ?_ ?_
          · intro a W hW hd
            have h32 : a.tmps[32]?.getD undef = .int .i64 (i : Int) := slot_eq (hd 32 (by decide))
            refine grows_value _ hW (?_ : _ = _) rfl
            clear hd
            go_simp
          refine each_cons ?_ ?_
          · intro a W hW hd
            have h30 : a.tmps[30]?.getD undef = .int .u64 (H : Int) := slot_eq (hd 30 (by decide))
            have h33 : a.tmps[33]?.getD undef = .int .u32 (i : Int) := slot_eq (hd 33 (by decide))
            refine grows_value _ hW (?_ : _ = _) rfl
            clear hd
            go_simp
          exact each_nil
        · refine behind_val rfl ?_
          refine behind_val rfl ?_
          refine behind_val rfl ?_
          refine behind_val rfl ?_
          refine behind_val rfl ?_
          refine behind_val rfl ?_
          refine behind_val rfl ?_
          refine behind_val rfl ?_
          refine behind_val rfl ?_
          refine behind_nil fun W3 hCW3 hFW3 => ?_
          simp only [Act.put, List.setIfInBounds_toArray, List.set_cons_succ, List.set_cons_zero, List.drop_succ_cons, List.drop_zero]
          clear hFW3 xp1 xb70
          have HX3 := Lib.hid (HX1.out.step hCW3)
          have HE3 := Lib.hid (HE1.out.trans (ExtG.of_below hCW3))
          have HM3 := Lib.hid ((hCW3.block b5 (lt_heap HM1.out)).trans HM1.out)
          have HH3 := Lib.hid ((hCW3.block b7 (lt_heap HH1.out)).trans HH1.out)
          clear hCW3 HX1 HE1 HM1 HH1 HPL HRL
          go_upto_region 8 with (first
            | (go_at_call 98
               refine (HPU.out _ A' HX3.out).mono ?_
               rintro e u4 ⟨rfl, B', hx, he⟩
               have HX4 := Lib.hid hx
               have HE4 := Lib.hid (HE3.out.trans he)
               have HM4 := Lib.hid ((he.kept.block b5 (lt_heap HM3.out) HB51.out).trans HM3.out)
               have HH4 := Lib.hid ((he.kept.block b7 (lt_heap HH3.out) HB71.out).trans HH3.out)
               have HB54 : Hid (¬ FF p b A' B' b5) := Lib.hid fun q => by
                 rcases he.sub b5 q with r | r
                 · exact HB51.out r
                 · have := lt_heap HM3.out
                   omega
               have HB74 : Hid (¬ FF p b A' B' b7) := Lib.hid fun q => by
                 rcases he.sub b7 q with r | r
                 · exact HB71.out r
                 · have := lt_heap HH3.out
                   omega
               clear hx he))
          go_upto_region 9 with (first
            | (refine wpList_load_roww rfl 95 (.tmp 7) rfl b7 rfl 95 #[.int .i64 (i : Int), .int .u64 hk] (0, 0) _ HH4.out Tryz.underlying95 rfl (by kernel_rfl) ?_)
            | (refine wpList_store_mid rfl 95 (.tmp 46) (.tmp 45) rfl b5 0 #[.int .i64 (i : Int), .int .u64 hk] rfl rfl (blk_there HM4.out (by show 0 + 2 ≤ C.size; rw [HCS.out]; decide)) (by kernel_rfl) (by simp [Value.oneCell']) ?_))
          change Code.wp _ _ _ _ (u4.setCells b5 0 [.int .i64 (i : Int), .int .u64 hk])
          have HM5 : Hid ((u4.setCells b5 0 [.int .i64 (i : Int), .int .u64 hk]).heap[b5]? = some (.cells C6 97 (0, 0))) := Lib.hid (by rw [blk_setCells _ _ _ _ HM4.out, HC6.out])
          have HK5 : Hid (Kept (fun k => k = b5) u4 (u4.setCells b5 0 [.int .i64 (i : Int), .int .u64 hk])) := Lib.hid ((Kept.refl (fun k => k = b5) u4).setCells (.inl rfl) _ _)
          have HX5 := Lib.hid (HX4.out.keep HK5.out fun k q e => HB54.out (by rw [← show k = b5 from e]; exact q))
          have HE5 : Hid (ExtG (FF p b A B) (FF p b A' B') w (u4.setCells b5 0 [.int .i64 (i : Int), .int .u64 hk])) := Lib.hid ⟨fun k q => by
            rcases HE4.out.sub k q with r | r
            · exact .inl r
            · exact .inr ⟨r.1, Nat.lt_of_lt_of_le r.2 HK5.out.size⟩, HE4.out.kept.setCells (.inr HBW.out) _ _⟩
          have HH5 : Hid ((u4.setCells b5 0 [.int .i64 (i : Int), .int .u64 hk]).heap[b7]? = some (.cells #[.int .i64 (i : Int), .int .u64 hk] 95 (0, 0))) := Lib.hid ((other_setCells HB57.out _ _ _).trans HH4.out)
          clear HK5 HX4 HE4 HM4 HH4
          simp only [Act.put]
          generalize u4.setCells b5 0 [.int .i64 (i : Int), .int .u64 hk] = u5 at *
          have xp6 : u5.cell? ⟨p, 6, none⟩ = some (.slice (some ⟨b, 0, none⟩) n c) := blk_cell HX5.out.blk 6
          have HPL : Hid (p < u5.heap.size) := Lib.hid HX5.out.pold
          have HRL : Hid (b7 < u5.heap.size) := Lib.hid (lt_heap HH5.out)
          have xb70 : u5.cell? ⟨b7, 0, none⟩ = some (.int .i64 (i : Int)) := blk_cell HH5.out 0
          refine wp_region_grow (C := fun W => Below u5.heap.size u5 W) 8 55 [val (.pointer (some ⟨p, 0, none⟩)), val (.pointer (some ⟨p, 0, none⟩)), val (.pointer (some ⟨p, 6, none⟩)), val (.slice (some ⟨b, 0, none⟩) n c), val (.pointer (some ⟨b7, 0, none⟩)), val (.int .i64 (i : Int)), val (.agg C6), val (.pointer (some ⟨b, i * 42, none⟩))] (by kernel_rfl) rfl (by kernel_rfl) rfl ⟨stb_val _, stb_val _, stb_val _, stb_val _, stb_val _, stb_val _, stb_val _, stb_val _, trivial⟩ (Below.refl _ _).drew ?_ ?_
          · refine each_cons ?_ ?_
            · intro a W hW hd
              have h0 : a.tmps[0]?.getD undef = .pointer (some ⟨p, 0, none⟩) := slot_eq (hd 0 (by decide))
              exact grows_value _ hW (by simp [execOp, Act.eval, h0]) rfl
            refine each_cons ?_ ?_
            · intro a W hW hd
              have h47 : a.tmps[47]?.getD undef = .pointer (some ⟨p, 0, none⟩) := slot_eq (hd 47 (by decide))
              refine grows_value _ hW (?_ : _ = _) rfl
              clear hd
              go_simp
            refine each_cons ?_ ?_
            · intro a W hW hd
              have h48 : a.tmps[48]?.getD undef = .pointer (some ⟨p, 0, none⟩) := slot_eq (hd 48 (by decide))
              refine grows_value _ hW (?_ : _ = _) rfl
              clear hd
              go_simp
            refine each_cons ?_ ?_
            · intro a W hW hd
              have h49 : a.tmps[49]?.getD undef = .pointer (some ⟨p, 6, none⟩) := slot_eq (hd 49 (by decide))
              have xx : W.cell? ⟨p, 6, none⟩ = some (.slice (some ⟨b, 0, none⟩) n c) := (hW.cell (p := ⟨p, 6, none⟩) HPL.out).trans xp6
              refine grows_value _ hW (?_ : _ = _) rfl
              clear hd
              go_simp
            refine each_cons ?_ ?_
            · intro a W hW hd
              have h7 : a.tmps[7]?.getD undef = .pointer (some ⟨b7, 0, none⟩) := slot_eq (hd 7 (by decide))
              refine grows_value _ hW (?_ : _ = _) rfl
              clear hd
              go_simp
            refine each_cons ?_ ?_
            · intro a W hW hd
              have h51 : a.tmps[51]?.getD undef = .pointer (some ⟨b7, 0, none⟩) := slot_eq (hd 51 (by decide))
              have xx : W.cell? ⟨b7, 0, none⟩ = some (.int .i64 (i : Int)) := (hW.cell (p := ⟨b7, 0, none⟩) HRL.out).trans xb70
              refine grows_value _ hW (?_ : _ = _) rfl
              clear hd
              go_simp
            refine each_cons ?_ ?_
            · intro a W hW hd
              have h5 : a.tmps[5]?.getD undef = .pointer (some ⟨b5, 0, none⟩) := slot_eq (hd 5 (by decide))
              have hld := run_loadVar_row (P := Tryz.prog) W b5 97 97 C6 (0, 0) _ ((hW.block b5 (lt_heap HM5.out)).trans HM5.out) Tryz.underlying97 rfl (HI42.out.trans (by rw [HCS6.out]))
              refine grows_value _ hW (?_ : _ = _) rfl
              clear hd
              simp only [execOp, Act.eval, Array.getD_eq_getD_getElem?, h5, Instr.loadAt, Instr.sureAddr, Sem.run_bind, Sem.run_pure, Result.andThen_ok, hld]
            refine each_cons ?_ ?_
            · intro a W hW hd
              have h50 : a.tmps[50]?.getD undef = .slice (some ⟨b, 0, none⟩) n c := slot_eq (hd 50 (by decide))
              have h52 : a.tmps[52]?.getD undef = .int .i64 (i : Int) := slot_eq (hd 52 (by decide))
              refine grows_value _ hW (?_ : _ = _) rfl
              clear hd
              go_simp
            exact each_nil
          · refine behind_val rfl ?_
            refine behind_val rfl ?_
            refine behind_val rfl ?_
            refine behind_val rfl ?_
            refine behind_val rfl ?_
            refine behind_val rfl ?_
            refine behind_val rfl ?_
            refine behind_val rfl ?_
            refine behind_nil fun W7 hCW7 hFW7 => ?_
            simp only [Act.put, List.setIfInBounds_toArray, List.set_cons_succ, List.set_cons_zero, List.drop_succ_cons, List.drop_zero]
            clear hFW7 xp6 xb70
            have HX7 := Lib.hid (HX5.out.step hCW7)
            have HE7 := Lib.hid (HE5.out.trans (ExtG.of_below hCW7))
            clear hCW7 HX5 HE5
            go_wp2_with (first
              | (refine wpList_store_mid rfl 97 (.tmp 54) (.tmp 53) rfl b (i * 42) C6 rfl rfl (by rw [HCS6.out]; exact HX7.out.there HIN.out) (HI42.out.trans (by rw [HCS6.out])) HCO6.out ?_))
            go_ret
            obtain ⟨h1, h2⟩ := HX7.out.put i C6 HCS6.out (l' := lr) HPR.out
            exact ⟨rfl, A', B', h1, HE7.out.trans h2⟩
end
end Go.Proofs.YtimcdnbfdkpffaaGreat
