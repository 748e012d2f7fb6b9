import Derived.Test.YthjghofjdcepmaaGm19
import Derived.Test.YthjghofjdcepmaaGm20
/- Stage 14: the document's Step. -/
namespace Go.Proofs.Ythjghofjdcepmaa
set_option maxRecDepth 100000
open Go.RowKit Go.Shelf
section
variable {w w' : World} {q qn qx : Nat} {s : Gr} {G Gn Gx : Nat → Prop}
/-- Fields of its own block stored. -/
theorem RG.turn (h : RG w q qn qx s G Gn Gx) (hk : Kept (fun k => k = q) w w') {s' : Gr} (hb : w'.heap[q]? = some (.cells #[.pointer (some ⟨qn, 0, none⟩), .pointer (if s'.mv then some ⟨qx, 0, none⟩ else none), .bool s'.mv, .int .i64 (s'.most : Int), .int .i64 (s'.at_ : Int)] 63 (0, 0))) (hn : s'.now = s.now) (hx : s'.mv = true → s.mv = true ∧ s'.next = s.next) : RG w' q qn qx s' G Gn Gx ∧ ExtG G G w w' := by
  refine ⟨⟨hb, by rw [hn]; exact h.now.keep hk fun k hk e => h.apN (by rw [← e]; exact hk), fun e => ?_, h.mem, h.subN, fun e => h.subX (hx e).1, h.apN, fun e => h.apX (hx e).1, fun k hk' => Nat.lt_of_lt_of_le (h.old k hk') hk.size⟩, fun k hk => .inl hk, hk.mono fun k _ e => by rw [e]; exact h.mem⟩
  obtain ⟨e1, e2⟩ := hx e
  rw [e2]
  exact (h.next e1).keep hk fun k hk e' => (h.apX e1).1 (by rw [← e']; exact hk)
theorem RG.ended (h : RG w q qn qx s G Gn Gx) (hm : s.mv = true) (hk : Kept (fun k => k = q) w w') {at' : Nat} (hb : w'.heap[q]? = some (.cells #[.pointer (some ⟨qx, 0, none⟩), .pointer none, .bool false, .int .i64 (s.most : Int), .int .i64 (at' : Int)] 63 (0, 0))) : RG w' q qx qx ⟨s.next, s.next, false, s.most, at'⟩ G Gx Gx ∧ ExtG G G w w' := by
  refine ⟨⟨hb, (h.next hm).keep hk fun k hk e => (h.apX hm).1 (by rw [← e]; exact hk), fun e => (by cases e), h.mem, h.subX hm, fun e => (by cases e), (h.apX hm).1, fun e => (by cases e), fun k hk' => Nat.lt_of_lt_of_le (h.old k hk') hk.size⟩, fun k hk => .inl hk, hk.mono fun k _ e => by rw [e]; exact h.mem⟩
theorem rg_len {n : Nat} (h : RG w q qn qx s G Gn Gx) (hn : s.now.n = n) : ∀ (A : Option Addr) (c : Nat), (∀ W, Below w.heap.size w W → W.cell? ⟨qn, 2, none⟩ = some (.slice A n c)) → ∀ {w' : World}, Kept (fun k => k = q) w w' → w'.cell? ⟨qn, 2, none⟩ = some (.slice A n c) := by
  intro A c hA w' hk
  exact (hk.cell (p := ⟨qn, 2, none⟩) (h.old qn (h.subN qn h.now.mem)) fun e => h.apN (by have e : qn = q := e; rw [← e]; exact h.now.mem)).trans (hA w (Below.refl _ _))
def BoxF (l : Array Bool) (i : Nat) (W : World) (z0 z : Nat) (A B : Array Value) (t : TypeId) : Prop := z0 ≤ z ∧ W.heap[z]? = some (.cells (if l.getD i false then B else A) t (0, 0))
theorem getD_tf {l : Array Bool} {i : Nat} (h : l.getD i true = false) : l.getD i false = false := by
  rw [Array.getD_eq_getD_getElem?] at h ⊢
  cases hq : l[i]? with
  | none => rfl
  | some b =>
    rw [hq] at h
    exact h
section
variable {l : Array Bool} {i k z0 z : Nat} {W W' : World} {A B : Array Value} {t : TypeId}
theorem BoxF.on (h : BoxF l i W z0 z A B t) (hk : i ≠ k) (hb : Below W.heap.size W W') : BoxF (l.setIfInBounds k true) i W' z0 z A B t := ⟨h.1, by rw [getD_set hk]; exact (hb.block z (lt_heap h.2)).trans h.2⟩
theorem BoxF.new (hl : l.getD i false = false) (hk : i ≠ k) (hW : z0 ≤ W.heap.size) : BoxF (l.setIfInBounds k true) i (W.alloc (.cells A t)) z0 W.heap.size A B t := ⟨hW, by rw [getD_set hk, hl]; exact heap_alloc_new W _⟩
theorem BoxF.put (h : BoxF l i W z0 z A B t) (hn : l.getD i true = false) : W.heap[z]? = some (.cells A t (0, 0)) ∧ BoxF (l.setIfInBounds i true) i (W.setRow z B) z0 z A B t := by
  have h2 := h.2
  rw [getD_tf hn] at h2
  exact ⟨h2, h.1, by rw [getD_set_self hn]; exact setRow_heap _ z _ B _ _ h2⟩
end
theorem FrU.skipK {a0 a : Act} {K : List (Nat × Nat)} {V : Nat → Value} {l : Array Bool} (h : FrU a0 (kv K V) l a) (i : Nat) (hk : (K.all fun x => x.1 != i) = true) : FrU a0 (kv K V) (l.setIfInBounds i true) a :=
  h.skip i fun x hx => by
    obtain ⟨y, hy, rfl⟩ := List.mem_map.1 hx
    have := List.all_eq_true.1 hk y hy
    simpa using this
theorem gets_c {t : Tb} {K : Nat → Prop} {p : Nat} (h : RTA w p t K) (ht : t.Ok) (P : Int) (W : World) (hb : Below w.heap.size w W) : Calls Try.prog 46 #[.pointer (some ⟨p, 0, none⟩), .int .i64 P] W (ret (.tuple #[.agg (t.gtV P), .bool (t.isF P)]) W) := by
  obtain ⟨AF, cF, AM, cM, AE, cE, hX'⟩ := h
  exact rget_any (hX'.step hb) ht P
set_option maxHeartbeats 4000000 in
theorem rstep_any (h : RG w q qn qx s G Gn Gx) (hs : s.Ok) : Calls Try.prog 15 #[.pointer (some ⟨q, 0, none⟩)] w fun e w' => e = .returned (.bool s.st.mv) ∧ ∃ G', RGA w' q s.st G' ∧ ExtG G G' w w' := by
  have HG := Lib.hid h
  have HS := Lib.hid hs
  cases hmv : s.mv with
  | false =>
    have hq := h.blk
    rw [hmv] at hq
    have x2 : w.cell? ⟨q, 2, none⟩ = some (.bool false) := blk_cell hq 2
    have HV : Hid (s.st = s) := Lib.hid (by unfold Gr.st; rw [hmv, if_neg Bool.false_ne_true])
    have HMV := Lib.hid hmv
    clear hq hmv h hs
    go_enter Try.func15, Try.ntmps15
    go_wp2_with fail
    go_ret
    refine ⟨by rw [HV.out, HMV.out]; rfl, G, ?_, ExtG.of_below (Below.refl _ _)⟩
    rw [HV.out]
    exact ⟨_, _, _, _, HG.out⟩
  | true =>
    have hq := h.blk
    rw [hmv] at hq
    have x2 : w.cell? ⟨q, 2, none⟩ = some (.bool true) := blk_cell hq 2
    have HMV := Lib.hid hmv
    have HQ := Lib.hid hq
    have HQL := Lib.hid (lt_heap hq)
    have X0 : Hid (∀ W, Below w.heap.size w W → W.cell? ⟨q, 0, none⟩ = some (.pointer (some ⟨qn, 0, none⟩))) := Lib.hid fun W hb => blk_cell ((hb.block q HQL.out).trans HQ.out) 0
    have X4 : Hid (∀ W, Below w.heap.size w W → W.cell? ⟨q, 4, none⟩ = some (.int .i64 (s.at_ : Int))) := Lib.hid fun W hb => blk_cell ((hb.block q HQL.out).trans HQ.out) 4
    have HGET := Lib.hid (gets_c h.now hs.now (s.at_ : Int))
    have hcur := hs.cur hmv
    have htop := hs.now.top
    obtain ⟨at_, ha⟩ : ∃ a, a = s.at_ := ⟨_, rfl⟩
    obtain ⟨n, hn⟩ : ∃ n, n = s.now.n := ⟨_, rfl⟩
    rw [← ha, ← hn] at hcur
    rw [← hn] at htop
    have za : IntKind.i64.wrap ((at_ : Int) + 1) = (at_ : Int) + 1 := by rw [IntKind.wrap_i64]; omega
    have HA := Lib.hid ha
    have HN := Lib.hid hn
    have hbd : s.now.eh s.at_ < 18446744073709551616 ∧ s.now.ew s.at_ < 4294967296 := ⟨hs.now.hash _, hs.now.what _⟩
    clear hq h hs ha hn hmv
    cases hf : s.now.isF (s.at_ : Int) with
    | true =>
      obtain ⟨ga, hga⟩ : ∃ a, a = s.now.eh s.at_ := ⟨_, rfl⟩
      obtain ⟨gx, hgx⟩ : ∃ a, a = s.now.ew s.at_ := ⟨_, rfl⟩
      rw [← hga, ← hgx] at hbd
      have HGE : Hid (s.now.eh s.at_ = ga ∧ s.now.ew s.at_ = gx) := Lib.hid ⟨hga.symm, hgx.symm⟩
      have HGA := Lib.hid hbd.1
      have HGX := Lib.hid hbd.2
      have hv : s.now.gtV (s.at_ : Int) = #[.int .u64 (ga : Int), .int .u32 (gx : Int)] := by unfold Tb.gtV; rw [if_pos hf, Int.toNat_natCast, hga, hgx]
      rw [hv, hf] at HGET
      have HF := Lib.hid hf
      clear hga hgx hv hf hbd
      go_enter Try.func15, Try.ntmps15
      go_upto_region 3 with fail
      clear x2
      rename_i Kc hKc
      refine wp_region_invG (fun a0 l a W => l.size = 15 ∧ a0.tmps.size = 75 ∧ Below w.heap.size w W ∧ ∃ (z : Nat), (l.getD 12 false = true → BoxF l 13 W w.heap.size z #[.int .u64 0, .int .u32 0] #[.int .u64 (ga : Int), .int .u32 (gx : Int)] 34) ∧ (l.getD 13 false = true → l.getD 12 false = true) ∧ FrU a0 (kv ([(0, 11), (1, 12), (2, 13), (3, 14), (4, 15), (5, 16), (6, 17), (7, 18), (8, 19), (9, 10), (10, 20), (11, 21), (12, 3), (14, 4)] : List (Nat × Nat)) (fun i => ([.pointer (some ⟨q, 0, none⟩), .pointer (some ⟨q, 0, none⟩), .pointer (some ⟨q, 0, none⟩), .pointer (some ⟨qn, 0, none⟩), .pointer (some ⟨q, 0, none⟩), .pointer (some ⟨q, 0, none⟩), .pointer (some ⟨q, 4, none⟩), .int .i64 (s.at_ : Int), .tuple #[.agg #[.int .u64 (ga : Int), .int .u32 (gx : Int)], .bool true], .tuple #[.agg #[.int .u64 (ga : Int), .int .u32 (gx : Int)], .bool true], .agg #[.int .u64 (ga : Int), .int .u32 (gx : Int)], .bool true, .pointer (some ⟨z, 0, none⟩), undef, .bool true][i]?).getD undef)) l a) ?_ ?_ ?_ ?_ ?_ ?_
      · kernel_rfl
      · exact fun _ _ _ h => h.1
      · kernel_rfl
      · exact ⟨by simp, rfl, (Below.refl _ _).drew, 0, (fun h => by rw [getD_none] at h; cases h), (fun h => by rw [getD_none] at h; cases h), FrU.start _ _ _⟩
      · intro l a W i5 o hI ho hn hdep
        obtain ⟨hl, hsz, hW, z, hX3, hV, hF⟩ := hI
        have x0 := X0.out W hW
        have x4 := X4.out W hW
        match i5, ho, hn with
        | 0, ho, hn =>
          simp only [List.getElem?_toArray, List.getElem?_cons_zero, Option.some.injEq] at ho
          subst ho
          refine ⟨rfl, ?_⟩
          have h0 : a.tmps[0]?.getD undef = .pointer (some ⟨q, 0, none⟩) := hF.baseK 0 rfl rfl
          exact owp_value (.pointer (some ⟨q, 0, none⟩)) (w' := W) (by clear hdep; go_simp) ⟨by simp [hl], hsz, hW, z, (fun h => ((hX3 (by rw [getD_set (by decide)] at h; exact h))).on (show 13 ≠ 0 by decide) (Below.refl _ _)), (fun h => by rw [getD_set (by decide)] at h ⊢; exact hV h), hF.putK 0 11 _ (by rw [hsz]; decide) rfl rfl⟩
        | 1, ho, hn =>
          simp only [List.getElem?_toArray, List.getElem?_cons_zero, List.getElem?_cons_succ, Option.some.injEq] at ho
          subst ho
          refine ⟨rfl, ?_⟩
          have h11 := hF.slotK (i := 0) (s := 11) (v := .pointer (some ⟨q, 0, none⟩)) rfl (hdep ⟨0, .data⟩ (by simp) rfl) rfl
          exact owp_value (.pointer (some ⟨q, 0, none⟩)) (w' := W) (by clear hdep; go_simp) ⟨by simp [hl], hsz, hW, z, (fun h => ((hX3 (by rw [getD_set (by decide)] at h; exact h))).on (show 13 ≠ 1 by decide) (Below.refl _ _)), (fun h => by rw [getD_set (by decide)] at h ⊢; exact hV h), hF.putK 1 12 _ (by rw [hsz]; decide) rfl rfl⟩
        | 2, ho, hn =>
          simp only [List.getElem?_toArray, List.getElem?_cons_zero, List.getElem?_cons_succ, Option.some.injEq] at ho
          subst ho
          refine ⟨rfl, ?_⟩
          have h12 := hF.slotK (i := 1) (s := 12) (v := .pointer (some ⟨q, 0, none⟩)) rfl (hdep ⟨1, .data⟩ (by simp) rfl) rfl
          exact owp_value (.pointer (some ⟨q, 0, none⟩)) (w' := W) (by clear hdep; go_simp) ⟨by simp [hl], hsz, hW, z, (fun h => ((hX3 (by rw [getD_set (by decide)] at h; exact h))).on (show 13 ≠ 2 by decide) (Below.refl _ _)), (fun h => by rw [getD_set (by decide)] at h ⊢; exact hV h), hF.putK 2 13 _ (by rw [hsz]; decide) rfl rfl⟩
        | 3, ho, hn =>
          simp only [List.getElem?_toArray, List.getElem?_cons_zero, List.getElem?_cons_succ, Option.some.injEq] at ho
          subst ho
          refine ⟨rfl, ?_⟩
          have h13 := hF.slotK (i := 2) (s := 13) (v := .pointer (some ⟨q, 0, none⟩)) rfl (hdep ⟨2, .data⟩ (by simp) rfl) rfl
          exact owp_value (.pointer (some ⟨qn, 0, none⟩)) (w' := W) (by clear hdep; go_simp) ⟨by simp [hl], hsz, hW, z, (fun h => ((hX3 (by rw [getD_set (by decide)] at h; exact h))).on (show 13 ≠ 3 by decide) (Below.refl _ _)), (fun h => by rw [getD_set (by decide)] at h ⊢; exact hV h), hF.putK 3 14 _ (by rw [hsz]; decide) rfl rfl⟩
        | 4, ho, hn =>
          simp only [List.getElem?_toArray, List.getElem?_cons_zero, List.getElem?_cons_succ, Option.some.injEq] at ho
          subst ho
          refine ⟨rfl, ?_⟩
          have h0 : a.tmps[0]?.getD undef = .pointer (some ⟨q, 0, none⟩) := hF.baseK 0 rfl rfl
          exact owp_value (.pointer (some ⟨q, 0, none⟩)) (w' := W) (by clear hdep; go_simp) ⟨by simp [hl], hsz, hW, z, (fun h => ((hX3 (by rw [getD_set (by decide)] at h; exact h))).on (show 13 ≠ 4 by decide) (Below.refl _ _)), (fun h => by rw [getD_set (by decide)] at h ⊢; exact hV h), hF.putK 4 15 _ (by rw [hsz]; decide) rfl rfl⟩
        | 5, ho, hn =>
          simp only [List.getElem?_toArray, List.getElem?_cons_zero, List.getElem?_cons_succ, Option.some.injEq] at ho
          subst ho
          refine ⟨rfl, ?_⟩
          have h15 := hF.slotK (i := 4) (s := 15) (v := .pointer (some ⟨q, 0, none⟩)) rfl (hdep ⟨4, .data⟩ (by simp) rfl) rfl
          exact owp_value (.pointer (some ⟨q, 0, none⟩)) (w' := W) (by clear hdep; go_simp) ⟨by simp [hl], hsz, hW, z, (fun h => ((hX3 (by rw [getD_set (by decide)] at h; exact h))).on (show 13 ≠ 5 by decide) (Below.refl _ _)), (fun h => by rw [getD_set (by decide)] at h ⊢; exact hV h), hF.putK 5 16 _ (by rw [hsz]; decide) rfl rfl⟩
        | 6, ho, hn =>
          simp only [List.getElem?_toArray, List.getElem?_cons_zero, List.getElem?_cons_succ, Option.some.injEq] at ho
          subst ho
          refine ⟨rfl, ?_⟩
          have h16 := hF.slotK (i := 5) (s := 16) (v := .pointer (some ⟨q, 0, none⟩)) rfl (hdep ⟨5, .data⟩ (by simp) rfl) rfl
          exact owp_value (.pointer (some ⟨q, 4, none⟩)) (w' := W) (by clear hdep; go_simp) ⟨by simp [hl], hsz, hW, z, (fun h => ((hX3 (by rw [getD_set (by decide)] at h; exact h))).on (show 13 ≠ 6 by decide) (Below.refl _ _)), (fun h => by rw [getD_set (by decide)] at h ⊢; exact hV h), hF.putK 6 17 _ (by rw [hsz]; decide) rfl rfl⟩
        | 7, ho, hn =>
          simp only [List.getElem?_toArray, List.getElem?_cons_zero, List.getElem?_cons_succ, Option.some.injEq] at ho
          subst ho
          refine ⟨rfl, ?_⟩
          have h17 := hF.slotK (i := 6) (s := 17) (v := .pointer (some ⟨q, 4, none⟩)) rfl (hdep ⟨6, .data⟩ (by simp) rfl) rfl
          exact owp_value (.int .i64 (s.at_ : Int)) (w' := W) (by clear hdep; go_simp) ⟨by simp [hl], hsz, hW, z, (fun h => ((hX3 (by rw [getD_set (by decide)] at h; exact h))).on (show 13 ≠ 7 by decide) (Below.refl _ _)), (fun h => by rw [getD_set (by decide)] at h ⊢; exact hV h), hF.putK 7 18 _ (by rw [hsz]; decide) rfl rfl⟩
        | 8, ho, hn =>
          simp only [List.getElem?_toArray, List.getElem?_cons_zero, List.getElem?_cons_succ, Option.some.injEq] at ho
          subst ho
          refine ⟨rfl, ?_⟩
          have h14 := hF.slotK (i := 3) (s := 14) (v := .pointer (some ⟨qn, 0, none⟩)) rfl (hdep ⟨3, .data⟩ (by simp) rfl) rfl
          have h18 := hF.slotK (i := 7) (s := 18) (v := .int .i64 (s.at_ : Int)) rfl (hdep ⟨7, .data⟩ (by simp) rfl) rfl
          refine owp_call (fn := 46) (args := #[.pointer (some ⟨qn, 0, none⟩), .int .i64 (s.at_ : Int)]) (by clear hdep; go_simp) ?_
          refine (HGET.out W hW).mono ?_
          rintro e w' ⟨rfl, hb⟩
          exact ⟨_, rfl, by simp [hl], hsz, hW.trans (hb.mono hW.size), z, (fun h => ((hX3 (by rw [getD_set (by decide)] at h; exact h))).on (show 13 ≠ 8 by decide) hb), (fun h => by rw [getD_set (by decide)] at h ⊢; exact hV h), hF.putK 8 19 _ (by rw [hsz]; decide) rfl rfl⟩
        | 9, ho, hn =>
          simp only [List.getElem?_toArray, List.getElem?_cons_zero, List.getElem?_cons_succ, Option.some.injEq] at ho
          subst ho
          refine ⟨rfl, ?_⟩
          have h19 := hF.slotK (i := 8) (s := 19) (v := .tuple #[.agg #[.int .u64 (ga : Int), .int .u32 (gx : Int)], .bool true]) rfl (hdep ⟨8, .data⟩ (by simp) rfl) rfl
          exact owp_value (.tuple #[.agg #[.int .u64 (ga : Int), .int .u32 (gx : Int)], .bool true]) (w' := W) (by clear hdep; go_simp) ⟨by simp [hl], hsz, hW, z, (fun h => ((hX3 (by rw [getD_set (by decide)] at h; exact h))).on (show 13 ≠ 9 by decide) (Below.refl _ _)), (fun h => by rw [getD_set (by decide)] at h ⊢; exact hV h), hF.putK 9 10 _ (by rw [hsz]; decide) rfl rfl⟩
        | 10, ho, hn =>
          simp only [List.getElem?_toArray, List.getElem?_cons_zero, List.getElem?_cons_succ, Option.some.injEq] at ho
          subst ho
          refine ⟨rfl, ?_⟩
          have h10 := hF.slotK (i := 9) (s := 10) (v := .tuple #[.agg #[.int .u64 (ga : Int), .int .u32 (gx : Int)], .bool true]) rfl (hdep ⟨9, .data⟩ (by simp) rfl) rfl
          exact owp_value (.agg #[.int .u64 (ga : Int), .int .u32 (gx : Int)]) (w' := W) (by clear hdep; go_simp) ⟨by simp [hl], hsz, hW, z, (fun h => ((hX3 (by rw [getD_set (by decide)] at h; exact h))).on (show 13 ≠ 10 by decide) (Below.refl _ _)), (fun h => by rw [getD_set (by decide)] at h ⊢; exact hV h), hF.putK 10 20 _ (by rw [hsz]; decide) rfl rfl⟩
        | 11, ho, hn =>
          simp only [List.getElem?_toArray, List.getElem?_cons_zero, List.getElem?_cons_succ, Option.some.injEq] at ho
          subst ho
          refine ⟨rfl, ?_⟩
          have h10 := hF.slotK (i := 9) (s := 10) (v := .tuple #[.agg #[.int .u64 (ga : Int), .int .u32 (gx : Int)], .bool true]) rfl (hdep ⟨9, .data⟩ (by simp) rfl) rfl
          exact owp_value (.bool true) (w' := W) (by clear hdep; go_simp) ⟨by simp [hl], hsz, hW, z, (fun h => ((hX3 (by rw [getD_set (by decide)] at h; exact h))).on (show 13 ≠ 11 by decide) (Below.refl _ _)), (fun h => by rw [getD_set (by decide)] at h ⊢; exact hV h), hF.putK 11 21 _ (by rw [hsz]; decide) rfl rfl⟩
        | 12, ho, hn =>
          simp only [List.getElem?_toArray, List.getElem?_cons_zero, List.getElem?_cons_succ, Option.some.injEq] at ho
          subst ho
          refine ⟨rfl, ?_⟩
          have hb := below_alloc W (.cells #[.int .u64 0, .int .u32 0] 34)
          refine owp_value (.pointer (some ⟨W.heap.size, 0, none⟩)) (w' := W.alloc (.cells #[.int .u64 0, .int .u32 0] 34)) (by clear hdep; go_simp) ?_
          have hF2 := hF.swapQ (V' := (fun i => ([.pointer (some ⟨q, 0, none⟩), .pointer (some ⟨q, 0, none⟩), .pointer (some ⟨q, 0, none⟩), .pointer (some ⟨qn, 0, none⟩), .pointer (some ⟨q, 0, none⟩), .pointer (some ⟨q, 0, none⟩), .pointer (some ⟨q, 4, none⟩), .int .i64 (s.at_ : Int), .tuple #[.agg #[.int .u64 (ga : Int), .int .u32 (gx : Int)], .bool true], .tuple #[.agg #[.int .u64 (ga : Int), .int .u32 (gx : Int)], .bool true], .agg #[.int .u64 (ga : Int), .int .u32 (gx : Int)], .bool true, .pointer (some ⟨W.heap.size, 0, none⟩), undef, .bool true][i]?).getD undef)) 12 hn (fun q hq => by
            match q with
            | 0 => rfl
            | 1 => rfl
            | 2 => rfl
            | 3 => rfl
            | 4 => rfl
            | 5 => rfl
            | 6 => rfl
            | 7 => rfl
            | 8 => rfl
            | 9 => rfl
            | 10 => rfl
            | 11 => rfl
            | 12 => exact absurd rfl hq
            | 13 => rfl
            | 14 => rfl
            | q + 15 => rfl)
          have h13 : l.getD 13 false = false := by
            cases e : l.getD 13 false with
            | false => rfl
            | true => exact absurd (hV e) (by rw [getD_tf hn]; exact Bool.false_ne_true)
          exact ⟨by simp [hl], hsz, hW.trans (hb.mono hW.size), W.heap.size, (fun _ => BoxF.new h13 (by decide) hW.size), (fun _ => getD_set_self hn), hF2.putK 12 3 _ (by rw [hsz]; decide) rfl rfl⟩
        | 13, ho, hn =>
          simp only [List.getElem?_toArray, List.getElem?_cons_zero, List.getElem?_cons_succ, Option.some.injEq] at ho
          subst ho
          refine ⟨rfl, ?_⟩
          have h3 := hF.slotK (i := 12) (s := 3) (v := .pointer (some ⟨z, 0, none⟩)) rfl (hdep ⟨12, .data⟩ (by simp) rfl) rfl
          have h20 := hF.slotK (i := 10) (s := 20) (v := .agg #[.int .u64 (ga : Int), .int .u32 (gx : Int)]) rfl (hdep ⟨10, .data⟩ (by simp) rfl) rfl
          have h3 := hF.slotK (i := 12) (s := 3) (v := .pointer (some ⟨z, 0, none⟩)) rfl (hdep ⟨12, .data⟩ (by simp) rfl) rfl
          have h20 := hF.slotK (i := 10) (s := 20) (v := .agg #[.int .u64 (ga : Int), .int .u32 (gx : Int)]) rfl (hdep ⟨10, .data⟩ (by simp) rfl) rfl
          have hx := hX3 (hdep ⟨12, .data⟩ (by simp) rfl)
          obtain ⟨hx1, hx2⟩ := hx.put hn
          refine wp_store_row 34 (.tmp 3) (.tmp 20) rfl z #[.int .u64 (ga : Int), .int .u32 (gx : Int)] (by show a.tmps.getD 3 undef = _; rw [Array.getD_eq_getD_getElem?]; exact h3) (by show a.tmps.getD 20 undef = _; rw [Array.getD_eq_getD_getElem?]; exact h20) 34 #[.int .u64 0, .int .u32 0] hx1 (by kernel_rfl) rfl (by simp [Value.oneCell']) ?_
          exact ⟨by simp [hl], hsz, below_setRow hW hx.1 _, z, (fun _ => hx2), (fun _ => by rw [getD_set (by decide)]; exact hdep ⟨12, .data⟩ (by simp) rfl), hF.skipK 13 (by decide)⟩
        | 14, ho, hn =>
          simp only [List.getElem?_toArray, List.getElem?_cons_zero, List.getElem?_cons_succ, Option.some.injEq] at ho
          subst ho
          refine ⟨rfl, ?_⟩
          have h21 := hF.slotK (i := 11) (s := 21) (v := .bool true) rfl (hdep ⟨11, .data⟩ (by simp) rfl) rfl
          exact owp_value (.bool true) (w' := W) (by clear hdep; go_simp) ⟨by simp [hl], hsz, hW, z, (fun h => ((hX3 (by rw [getD_set (by decide)] at h; exact h))).on (show 13 ≠ 14 by decide) (Below.refl _ _)), (fun h => by rw [getD_set (by decide)] at h ⊢; exact hV h), hF.putK 14 4 _ (by rw [hsz]; decide) rfl rfl⟩
        | i5 + 15, ho, hn => simp at ho
      · intro l a W1 hI hall
        obtain ⟨_, _, hW1, z, hX3, hV, hF⟩ := hI
        have hall : ∀ i, i < 15 → l.getD i false = true := hall
        have ha := FrU.allQ (K := ([(0, 11), (1, 12), (2, 13), (3, 14), (4, 15), (5, 16), (6, 17), (7, 18), (8, 19), (9, 10), (10, 20), (11, 21), (12, 3), (14, 4)] : List (Nat × Nat))) (V := (fun i => ([.pointer (some ⟨q, 0, none⟩), .pointer (some ⟨q, 0, none⟩), .pointer (some ⟨q, 0, none⟩), .pointer (some ⟨qn, 0, none⟩), .pointer (some ⟨q, 0, none⟩), .pointer (some ⟨q, 0, none⟩), .pointer (some ⟨q, 4, none⟩), .int .i64 (s.at_ : Int), .tuple #[.agg #[.int .u64 (ga : Int), .int .u32 (gx : Int)], .bool true], .tuple #[.agg #[.int .u64 (ga : Int), .int .u32 (gx : Int)], .bool true], .agg #[.int .u64 (ga : Int), .int .u32 (gx : Int)], .bool true, .pointer (some ⟨z, 0, none⟩), undef, .bool true][i]?).getD undef)) (BL := ([(0, 11, .pointer (some ⟨q, 0, none⟩)), (1, 12, .pointer (some ⟨q, 0, none⟩)), (2, 13, .pointer (some ⟨q, 0, none⟩)), (3, 14, .pointer (some ⟨qn, 0, none⟩)), (4, 15, .pointer (some ⟨q, 0, none⟩)), (5, 16, .pointer (some ⟨q, 0, none⟩)), (6, 17, .pointer (some ⟨q, 4, none⟩)), (7, 18, .int .i64 (s.at_ : Int)), (8, 19, .tuple #[.agg #[.int .u64 (ga : Int), .int .u32 (gx : Int)], .bool true]), (9, 10, .tuple #[.agg #[.int .u64 (ga : Int), .int .u32 (gx : Int)], .bool true]), (10, 20, .agg #[.int .u64 (ga : Int), .int .u32 (gx : Int)]), (11, 21, .bool true), (12, 3, .pointer (some ⟨z, 0, none⟩)), (14, 4, .bool true)] : List (Nat × Nat × Value))) hF rfl (n := 15) hall rfl
        subst ha
        have HW1 := Lib.hid hW1
        have HX3 := Lib.hid (hX3 (hall 12 (by decide)))
        have HL13 := Lib.hid (hall 13 (by decide))
        clear hF hall hW1 hV hX3
        refine hKc _ _ ?_
        simp only [setAll, List.setIfInBounds_toArray, List.set_cons_succ, List.set_cons_zero]
        have HR4 : Hid (W1.heap[z]? = some (.cells #[.int .u64 (ga : Int), .int .u32 (gx : Int)] 34 (0, 0))) := Lib.hid (by
          have h := HX3.out.2
          rw [HL13.out] at h
          exact h)
        have HRL := Lib.hid HX3.out.1
        have HG4 := Lib.hid (HG.out.step HW1.out)
        have HB4 := HW1
        clear HX3 HL13 HW1 X0 X4
        generalize W1 = v4 at *
        generalize z = r at *
        have r0 : v4.cell? ⟨r, 0, none⟩ = some (.int .u64 (ga : Int)) := blk_cell HR4.out 0
        have r1 : v4.cell? ⟨r, 1, none⟩ = some (.int .u32 (gx : Int)) := blk_cell HR4.out 1
        have hq := HG4.out.blk
        rw [HMV.out] at hq
        have x1 : v4.cell? ⟨q, 1, none⟩ = some (.pointer (some ⟨qx, 0, none⟩)) := blk_cell hq 1
        clear hq
        go_upto_region 5 with fail
        go_still_tail 5, (by kernel_rfl)
        repeat still_step
        try refine wpStill_nil ?_
        change wpList _ _ _ _ _ v4.drew
        have HG5 := Lib.hid (HG4.out.step (Below.refl _ v4).drew)
        have HB5 := Lib.hid (HB4.out.trans ((Below.refl _ v4).drew.mono HB4.out.size))
        clear r0 r1 x1 HG4 HR4 HB4
        generalize v4.drew = v5 at *
        have HPP := Lib.hid (rput_ext (HG5.out.next HMV.out) (HS.out.next HMV.out) ga gx HGA.out HGX.out)
        obtain ⟨EI, hEI⟩ : ∃ E, E = s.next.ptI ga := ⟨_, rfl⟩
        obtain ⟨EE, hEE⟩ : ∃ E, E = s.next.ptE ga := ⟨_, rfl⟩
        rw [← hEI, ← hEE] at HPP
        clear hEI hEE
        go_upto_region 6 with (first
          | (go_at_call 38
             refine HPP.out.mono ?_
             rintro e v6 ⟨rfl, G6, ha, hx⟩
             have HA6 := Lib.hid ha
             have HX6 := Lib.hid hx
             clear ha hx))
        have HG6 := Lib.hid (HG5.out.putX HMV.out HA6.out HX6.out)
        have hq := HG6.out.1.blk
        have x0 : v6.cell? ⟨q, 0, none⟩ = some (.pointer (some ⟨qn, 0, none⟩)) := blk_cell hq 0
        have x4 : v6.cell? ⟨q, 4, none⟩ = some (.int .i64 (s.at_ : Int)) := blk_cell hq 4
        clear hq HPP
        go_still_tail 8, (by kernel_rfl)
        repeat still_step
        try refine wpStill_nil ?_
        change wpList _ _ _ _ _ v6.drew
        have HG7 := Lib.hid (HG6.out.1.step (Below.refl _ v6).drew)
        have HX7 := Lib.hid (((ExtG.of_below HB5.out).trans HG6.out.2).trans (ExtG.of_below (Below.refl _ v6).drew))
        clear x0 x4 HG6 HG5 HB5 HA6 HX6
        generalize v6.drew = v7 at *
        have HDD := Lib.hid (rdrop_ext HG7.out.now HS.out.now (s.at_ : Int))
        obtain ⟨ED, hED⟩ : ∃ E, E = s.now.drE (s.at_ : Int) := ⟨_, rfl⟩
        rw [← hED] at HDD
        clear hED
        go_upto_region 7 with (first
          | (go_at_call 43
             refine HDD.out.mono ?_
             rintro e v8 ⟨rfl, G8, ha, hx⟩
             have HA8 := Lib.hid ha
             have HX8 := Lib.hid hx
             clear ha hx))
        have hg8 := HG7.out.setN HA8.out HX8.out
        have HM1 : Hid (s.moved.mv = true) := Lib.hid ((Gr.moved_mv s).trans HMV.out)
        have HN1 : Hid (s.moved.now.n = n) := Lib.hid ((Gr.moved_n s).trans HN.out.symm)
        have HA1 : Hid (at_ = s.moved.at_) := Lib.hid (HA.out.trans (Gr.moved_at s).symm)
        have HS1 : Hid (s.moved = ⟨s.now.dr (s.at_ : Int), s.next.pt ga gx, true, s.most, s.at_⟩) := Lib.hid (by unfold Gr.moved; rw [if_pos HF.out, HGE.out.1, HGE.out.2, HMV.out])
        have HGn : Hid (RG v8 q qn qx s.moved _ _ _) := Lib.hid (by rw [HS1.out]; exact hg8.1)
        have HXn := Lib.hid (HX7.out.trans hg8.2)
        have HQN := Lib.hid (rg_len HGn.out HN1.out)
        clear HS1 HG7 HX7 HDD HA8 HX8 hg8
        obtain ⟨AE, cE, hE⟩ := tlen_c HGn.out.now
        rw [HN1.out] at hE
        have HE := Lib.hid hE
        have hq := HGn.out.blk
        rw [HM1.out] at hq
        have x4 : v8.cell? ⟨q, 4, none⟩ = some (.int .i64 (at_ : Int)) := by rw [HA1.out]; exact blk_cell hq 4
        have f4 := blk_free hq 4
        have HQa := Lib.hid hq
        clear hq hE
        go_upto_region 8 with fail
        have HQb : Hid ((v8.setCell ⟨q, 4, none⟩ (.int .i64 ((at_ : Int) + 1))).heap[q]? = some (.cells #[.pointer (some ⟨qn, 0, none⟩), .pointer (some ⟨qx, 0, none⟩), .bool true, .int .i64 (s.moved.most : Int), .int .i64 ((at_ : Int) + 1)] 63 (0, 0))) := Lib.hid (blk_set HQa.out 4 _)
        have HKb : Hid (Kept (fun k => k = q) v8 (v8.setCell ⟨q, 4, none⟩ (.int .i64 ((at_ : Int) + 1)))) := Lib.hid ((Kept.refl (fun k => k = q) v8).setCell (p := ⟨q, 4, none⟩) (.inl rfl) _)
        clear x4 f4 HQa
        generalize v8.setCell ⟨q, 4, none⟩ (.int .i64 ((at_ : Int) + 1)) = va at *
        have HGb := Lib.hid (HGn.out.turn HKb.out (s' := ⟨s.moved.now, s.moved.next, true, s.moved.most, at_ + 1⟩) HQb.out rfl fun _ => ⟨HM1.out, rfl⟩)
        have z0 : ∀ W : Stay va, W.w.cell? ⟨q, 0, none⟩ = some (.pointer (some ⟨qn, 0, none⟩)) := fun W => Stay.cell (blk_cell HQb.out 0) W
        have z4 : ∀ W : Stay va, W.w.cell? ⟨q, 4, none⟩ = some (.int .i64 ((at_ : Int) + 1)) := fun W => Stay.cell (blk_cell HQb.out 4) W
        have zn : ∀ W : Stay va, W.w.cell? ⟨qn, 2, none⟩ = some (.slice AE n cE) := fun W => Stay.cell (HQN.out AE cE HE.out HKb.out) W
        refine wp_region_stay (by kernel_rfl) (by kernel_rfl) ?_
        repeat (go_big_quiet_step (fail))
        refine wpQuiet_nil ?_
        intro w' hw'
        obtain ⟨W, rfl⟩ := hw'
        have HGc := Lib.hid (HGb.out.1.step W.below)
        have HXc := Lib.hid ((HXn.out.trans HGb.out.2).trans (ExtG.of_below W.below))
        have HQc : Hid (W.w.heap[q]? = some (.cells #[.pointer (some ⟨qn, 0, none⟩), .pointer (some ⟨qx, 0, none⟩), .bool true, .int .i64 (s.moved.most : Int), .int .i64 ((at_ : Int) + 1)] 63 (0, 0))) := Lib.hid ((W.below.block q (lt_heap HQb.out)).trans HQb.out)
        clear z0 z4 zn HGb HKb HQb HQN HE
        generalize W.w = vc at *
        by_cases ce : at_ + 1 = n
        · have ce' : (at_ : Int) + 1 = (n : Int) := by omega
          have HC := Lib.hid ce
          have y1 : vc.cell? ⟨q, 1, none⟩ = some (.pointer (some ⟨qx, 0, none⟩)) := blk_cell HQc.out 1
          have y0 : vc.cell? ⟨q, 0, none⟩ = some (.pointer (some ⟨qn, 0, none⟩)) := blk_cell HQc.out 0
          have g0 := blk_free HQc.out 0
          clear ce
          go_upto_region 10 with fail
          have HQd : Hid ((vc.setCell ⟨q, 0, none⟩ (.pointer (some ⟨qx, 0, none⟩))).heap[q]? = some (.cells #[.pointer (some ⟨qx, 0, none⟩), .pointer (some ⟨qx, 0, none⟩), .bool true, .int .i64 (s.moved.most : Int), .int .i64 ((at_ : Int) + 1)] 63 (0, 0))) := Lib.hid (blk_set HQc.out 0 _)
          have HKd : Hid (Kept (fun k => k = q) vc (vc.setCell ⟨q, 0, none⟩ (.pointer (some ⟨qx, 0, none⟩)))) := Lib.hid ((Kept.refl (fun k => k = q) vc).setCell (p := ⟨q, 0, none⟩) (.inl rfl) _)
          clear y1 y0 g0
          generalize vc.setCell ⟨q, 0, none⟩ (.pointer (some ⟨qx, 0, none⟩)) = vd at *
          have y1 : vd.cell? ⟨q, 1, none⟩ = some (.pointer (some ⟨qx, 0, none⟩)) := blk_cell HQd.out 1
          have g1 := blk_free HQd.out 1
          go_upto_region 11 with fail
          have HQe : Hid ((vd.setCell ⟨q, 1, none⟩ (.pointer none)).heap[q]? = some (.cells #[.pointer (some ⟨qx, 0, none⟩), .pointer none, .bool true, .int .i64 (s.moved.most : Int), .int .i64 ((at_ : Int) + 1)] 63 (0, 0))) := Lib.hid (blk_set HQd.out 1 _)
          have HKe := Lib.hid (HKd.out.setCell (p := ⟨q, 1, none⟩) (.inl rfl) (.pointer none))
          clear y1 g1
          generalize vd.setCell ⟨q, 1, none⟩ (.pointer none) = ve at *
          have y2 : ve.cell? ⟨q, 2, none⟩ = some (.bool true) := blk_cell HQe.out 2
          have g2 := blk_free HQe.out 2
          go_upto_region 12 with fail
          have HQf : Hid ((ve.setCell ⟨q, 2, none⟩ (.bool false)).heap[q]? = some (.cells #[.pointer (some ⟨qx, 0, none⟩), .pointer none, .bool false, .int .i64 (s.moved.most : Int), .int .i64 ((at_ : Int) + 1)] 63 (0, 0))) := Lib.hid (blk_set HQe.out 2 _)
          have HKf := Lib.hid (HKe.out.setCell (p := ⟨q, 2, none⟩) (.inl rfl) (.bool false))
          clear y2 g2
          generalize ve.setCell ⟨q, 2, none⟩ (.bool false) = vf at *
          have y2 : vf.cell? ⟨q, 2, none⟩ = some (.bool false) := blk_cell HQf.out 2
          go_wp2_with fail
          go_ret
          have hst : s.st = ⟨s.moved.next, s.moved.next, false, s.moved.most, at_ + 1⟩ := by
            unfold Gr.st
            rw [HMV.out, if_pos rfl]
            unfold Gr.on
            rw [← HA1.out, HN1.out, if_pos HC.out]
          rw [hst]
          have hen := HGc.out.ended rfl HKf.out (at' := at_ + 1) HQf.out
          exact ⟨rfl, _, ⟨_, _, _, _, hen.1⟩, HXc.out.trans hen.2⟩
        · have ce' : ¬ (at_ : Int) + 1 = (n : Int) := by omega
          have HC := Lib.hid ce
          have y2 : vc.cell? ⟨q, 2, none⟩ = some (.bool true) := blk_cell HQc.out 2
          clear ce
          go_wp2_with fail
          go_ret
          have hst : s.st = ⟨s.moved.now, s.moved.next, true, s.moved.most, at_ + 1⟩ := by
            unfold Gr.st
            rw [HMV.out, if_pos rfl]
            unfold Gr.on
            rw [← HA1.out, HN1.out, if_neg HC.out, HM1.out]
          rw [hst]
          exact ⟨rfl, _, ⟨_, _, _, _, HGc.out⟩, HXc.out⟩
    | false =>
      obtain ⟨ga, hga⟩ : ∃ a : Nat, a = 0 := ⟨_, rfl⟩
      obtain ⟨gx, hgx⟩ : ∃ a : Nat, a = 0 := ⟨_, rfl⟩
      have hv : s.now.gtV (s.at_ : Int) = #[.int .u64 (ga : Int), .int .u32 (gx : Int)] := by unfold Tb.gtV; rw [if_neg (by rw [hf]; exact Bool.false_ne_true), hga, hgx]; rfl
      rw [hv, hf] at HGET
      have HF := Lib.hid hf
      clear hga hgx hv hf hbd
      go_enter Try.func15, Try.ntmps15
      go_upto_region 3 with fail
      clear x2
      rename_i Kc hKc
      refine wp_region_invG (fun a0 l a W => l.size = 15 ∧ a0.tmps.size = 75 ∧ Below w.heap.size w W ∧ ∃ (z : Nat), (l.getD 12 false = true → BoxF l 13 W w.heap.size z #[.int .u64 0, .int .u32 0] #[.int .u64 (ga : Int), .int .u32 (gx : Int)] 34) ∧ (l.getD 13 false = true → l.getD 12 false = true) ∧ FrU a0 (kv ([(0, 11), (1, 12), (2, 13), (3, 14), (4, 15), (5, 16), (6, 17), (7, 18), (8, 19), (9, 10), (10, 20), (11, 21), (12, 3), (14, 4)] : List (Nat × Nat)) (fun i => ([.pointer (some ⟨q, 0, none⟩), .pointer (some ⟨q, 0, none⟩), .pointer (some ⟨q, 0, none⟩), .pointer (some ⟨qn, 0, none⟩), .pointer (some ⟨q, 0, none⟩), .pointer (some ⟨q, 0, none⟩), .pointer (some ⟨q, 4, none⟩), .int .i64 (s.at_ : Int), .tuple #[.agg #[.int .u64 (ga : Int), .int .u32 (gx : Int)], .bool false], .tuple #[.agg #[.int .u64 (ga : Int), .int .u32 (gx : Int)], .bool false], .agg #[.int .u64 (ga : Int), .int .u32 (gx : Int)], .bool false, .pointer (some ⟨z, 0, none⟩), undef, .bool false][i]?).getD undef)) l a) ?_ ?_ ?_ ?_ ?_ ?_
      · kernel_rfl
      · exact fun _ _ _ h => h.1
      · kernel_rfl
      · exact ⟨by simp, rfl, (Below.refl _ _).drew, 0, (fun h => by rw [getD_none] at h; cases h), (fun h => by rw [getD_none] at h; cases h), FrU.start _ _ _⟩
      · intro l a W i5 o hI ho hn hdep
        obtain ⟨hl, hsz, hW, z, hX3, hV, hF⟩ := hI
        have x0 := X0.out W hW
        have x4 := X4.out W hW
        match i5, ho, hn with
        | 0, ho, hn =>
          simp only [List.getElem?_toArray, List.getElem?_cons_zero, Option.some.injEq] at ho
          subst ho
          refine ⟨rfl, ?_⟩
          have h0 : a.tmps[0]?.getD undef = .pointer (some ⟨q, 0, none⟩) := hF.baseK 0 rfl rfl
          exact owp_value (.pointer (some ⟨q, 0, none⟩)) (w' := W) (by clear hdep; go_simp) ⟨by simp [hl], hsz, hW, z, (fun h => ((hX3 (by rw [getD_set (by decide)] at h; exact h))).on (show 13 ≠ 0 by decide) (Below.refl _ _)), (fun h => by rw [getD_set (by decide)] at h ⊢; exact hV h), hF.putK 0 11 _ (by rw [hsz]; decide) rfl rfl⟩
        | 1, ho, hn =>
          simp only [List.getElem?_toArray, List.getElem?_cons_zero, List.getElem?_cons_succ, Option.some.injEq] at ho
          subst ho
          refine ⟨rfl, ?_⟩
          have h11 := hF.slotK (i := 0) (s := 11) (v := .pointer (some ⟨q, 0, none⟩)) rfl (hdep ⟨0, .data⟩ (by simp) rfl) rfl
          exact owp_value (.pointer (some ⟨q, 0, none⟩)) (w' := W) (by clear hdep; go_simp) ⟨by simp [hl], hsz, hW, z, (fun h => ((hX3 (by rw [getD_set (by decide)] at h; exact h))).on (show 13 ≠ 1 by decide) (Below.refl _ _)), (fun h => by rw [getD_set (by decide)] at h ⊢; exact hV h), hF.putK 1 12 _ (by rw [hsz]; decide) rfl rfl⟩
        | 2, ho, hn =>
          simp only [List.getElem?_toArray, List.getElem?_cons_zero, List.getElem?_cons_succ, Option.some.injEq] at ho
          subst ho
          refine ⟨rfl, ?_⟩
          have h12 := hF.slotK (i := 1) (s := 12) (v := .pointer (some ⟨q, 0, none⟩)) rfl (hdep ⟨1, .data⟩ (by simp) rfl) rfl
          exact owp_value (.pointer (some ⟨q, 0, none⟩)) (w' := W) (by clear hdep; go_simp) ⟨by simp [hl], hsz, hW, z, (fun h => ((hX3 (by rw [getD_set (by decide)] at h; exact h))).on (show 13 ≠ 2 by decide) (Below.refl _ _)), (fun h => by rw [getD_set (by decide)] at h ⊢; exact hV h), hF.putK 2 13 _ (by rw [hsz]; decide) rfl rfl⟩
        | 3, ho, hn =>
          simp only [List.getElem?_toArray, List.getElem?_cons_zero, List.getElem?_cons_succ, Option.some.injEq] at ho
          subst ho
          refine ⟨rfl, ?_⟩
          have h13 := hF.slotK (i := 2) (s := 13) (v := .pointer (some ⟨q, 0, none⟩)) rfl (hdep ⟨2, .data⟩ (by simp) rfl) rfl
          exact owp_value (.pointer (some ⟨qn, 0, none⟩)) (w' := W) (by clear hdep; go_simp) ⟨by simp [hl], hsz, hW, z, (fun h => ((hX3 (by rw [getD_set (by decide)] at h; exact h))).on (show 13 ≠ 3 by decide) (Below.refl _ _)), (fun h => by rw [getD_set (by decide)] at h ⊢; exact hV h), hF.putK 3 14 _ (by rw [hsz]; decide) rfl rfl⟩
        | 4, ho, hn =>
          simp only [List.getElem?_toArray, List.getElem?_cons_zero, List.getElem?_cons_succ, Option.some.injEq] at ho
          subst ho
          refine ⟨rfl, ?_⟩
          have h0 : a.tmps[0]?.getD undef = .pointer (some ⟨q, 0, none⟩) := hF.baseK 0 rfl rfl
          exact owp_value (.pointer (some ⟨q, 0, none⟩)) (w' := W) (by clear hdep; go_simp) ⟨by simp [hl], hsz, hW, z, (fun h => ((hX3 (by rw [getD_set (by decide)] at h; exact h))).on (show 13 ≠ 4 by decide) (Below.refl _ _)), (fun h => by rw [getD_set (by decide)] at h ⊢; exact hV h), hF.putK 4 15 _ (by rw [hsz]; decide) rfl rfl⟩
        | 5, ho, hn =>
          simp only [List.getElem?_toArray, List.getElem?_cons_zero, List.getElem?_cons_succ, Option.some.injEq] at ho
          subst ho
          refine ⟨rfl, ?_⟩
          have h15 := hF.slotK (i := 4) (s := 15) (v := .pointer (some ⟨q, 0, none⟩)) rfl (hdep ⟨4, .data⟩ (by simp) rfl) rfl
          exact owp_value (.pointer (some ⟨q, 0, none⟩)) (w' := W) (by clear hdep; go_simp) ⟨by simp [hl], hsz, hW, z, (fun h => ((hX3 (by rw [getD_set (by decide)] at h; exact h))).on (show 13 ≠ 5 by decide) (Below.refl _ _)), (fun h => by rw [getD_set (by decide)] at h ⊢; exact hV h), hF.putK 5 16 _ (by rw [hsz]; decide) rfl rfl⟩
        | 6, ho, hn =>
          simp only [List.getElem?_toArray, List.getElem?_cons_zero, List.getElem?_cons_succ, Option.some.injEq] at ho
          subst ho
          refine ⟨rfl, ?_⟩
          have h16 := hF.slotK (i := 5) (s := 16) (v := .pointer (some ⟨q, 0, none⟩)) rfl (hdep ⟨5, .data⟩ (by simp) rfl) rfl
          exact owp_value (.pointer (some ⟨q, 4, none⟩)) (w' := W) (by clear hdep; go_simp) ⟨by simp [hl], hsz, hW, z, (fun h => ((hX3 (by rw [getD_set (by decide)] at h; exact h))).on (show 13 ≠ 6 by decide) (Below.refl _ _)), (fun h => by rw [getD_set (by decide)] at h ⊢; exact hV h), hF.putK 6 17 _ (by rw [hsz]; decide) rfl rfl⟩
        | 7, ho, hn =>
          simp only [List.getElem?_toArray, List.getElem?_cons_zero, List.getElem?_cons_succ, Option.some.injEq] at ho
          subst ho
          refine ⟨rfl, ?_⟩
          have h17 := hF.slotK (i := 6) (s := 17) (v := .pointer (some ⟨q, 4, none⟩)) rfl (hdep ⟨6, .data⟩ (by simp) rfl) rfl
          exact owp_value (.int .i64 (s.at_ : Int)) (w' := W) (by clear hdep; go_simp) ⟨by simp [hl], hsz, hW, z, (fun h => ((hX3 (by rw [getD_set (by decide)] at h; exact h))).on (show 13 ≠ 7 by decide) (Below.refl _ _)), (fun h => by rw [getD_set (by decide)] at h ⊢; exact hV h), hF.putK 7 18 _ (by rw [hsz]; decide) rfl rfl⟩
        | 8, ho, hn =>
          simp only [List.getElem?_toArray, List.getElem?_cons_zero, List.getElem?_cons_succ, Option.some.injEq] at ho
          subst ho
          refine ⟨rfl, ?_⟩
          have h14 := hF.slotK (i := 3) (s := 14) (v := .pointer (some ⟨qn, 0, none⟩)) rfl (hdep ⟨3, .data⟩ (by simp) rfl) rfl
          have h18 := hF.slotK (i := 7) (s := 18) (v := .int .i64 (s.at_ : Int)) rfl (hdep ⟨7, .data⟩ (by simp) rfl) rfl
          refine owp_call (fn := 46) (args := #[.pointer (some ⟨qn, 0, none⟩), .int .i64 (s.at_ : Int)]) (by clear hdep; go_simp) ?_
          refine (HGET.out W hW).mono ?_
          rintro e w' ⟨rfl, hb⟩
          exact ⟨_, rfl, by simp [hl], hsz, hW.trans (hb.mono hW.size), z, (fun h => ((hX3 (by rw [getD_set (by decide)] at h; exact h))).on (show 13 ≠ 8 by decide) hb), (fun h => by rw [getD_set (by decide)] at h ⊢; exact hV h), hF.putK 8 19 _ (by rw [hsz]; decide) rfl rfl⟩
        | 9, ho, hn =>
          simp only [List.getElem?_toArray, List.getElem?_cons_zero, List.getElem?_cons_succ, Option.some.injEq] at ho
          subst ho
          refine ⟨rfl, ?_⟩
          have h19 := hF.slotK (i := 8) (s := 19) (v := .tuple #[.agg #[.int .u64 (ga : Int), .int .u32 (gx : Int)], .bool false]) rfl (hdep ⟨8, .data⟩ (by simp) rfl) rfl
          exact owp_value (.tuple #[.agg #[.int .u64 (ga : Int), .int .u32 (gx : Int)], .bool false]) (w' := W) (by clear hdep; go_simp) ⟨by simp [hl], hsz, hW, z, (fun h => ((hX3 (by rw [getD_set (by decide)] at h; exact h))).on (show 13 ≠ 9 by decide) (Below.refl _ _)), (fun h => by rw [getD_set (by decide)] at h ⊢; exact hV h), hF.putK 9 10 _ (by rw [hsz]; decide) rfl rfl⟩
        | 10, ho, hn =>
          simp only [List.getElem?_toArray, List.getElem?_cons_zero, List.getElem?_cons_succ, Option.some.injEq] at ho
          subst ho
          refine ⟨rfl, ?_⟩
          have h10 := hF.slotK (i := 9) (s := 10) (v := .tuple #[.agg #[.int .u64 (ga : Int), .int .u32 (gx : Int)], .bool false]) rfl (hdep ⟨9, .data⟩ (by simp) rfl) rfl
          exact owp_value (.agg #[.int .u64 (ga : Int), .int .u32 (gx : Int)]) (w' := W) (by clear hdep; go_simp) ⟨by simp [hl], hsz, hW, z, (fun h => ((hX3 (by rw [getD_set (by decide)] at h; exact h))).on (show 13 ≠ 10 by decide) (Below.refl _ _)), (fun h => by rw [getD_set (by decide)] at h ⊢; exact hV h), hF.putK 10 20 _ (by rw [hsz]; decide) rfl rfl⟩
        | 11, ho, hn =>
          simp only [List.getElem?_toArray, List.getElem?_cons_zero, List.getElem?_cons_succ, Option.some.injEq] at ho
          subst ho
          refine ⟨rfl, ?_⟩
          have h10 := hF.slotK (i := 9) (s := 10) (v := .tuple #[.agg #[.int .u64 (ga : Int), .int .u32 (gx : Int)], .bool false]) rfl (hdep ⟨9, .data⟩ (by simp) rfl) rfl
          exact owp_value (.bool false) (w' := W) (by clear hdep; go_simp) ⟨by simp [hl], hsz, hW, z, (fun h => ((hX3 (by rw [getD_set (by decide)] at h; exact h))).on (show 13 ≠ 11 by decide) (Below.refl _ _)), (fun h => by rw [getD_set (by decide)] at h ⊢; exact hV h), hF.putK 11 21 _ (by rw [hsz]; decide) rfl rfl⟩
        | 12, ho, hn =>
          simp only [List.getElem?_toArray, List.getElem?_cons_zero, List.getElem?_cons_succ, Option.some.injEq] at ho
          subst ho
          refine ⟨rfl, ?_⟩
          have hb := below_alloc W (.cells #[.int .u64 0, .int .u32 0] 34)
          refine owp_value (.pointer (some ⟨W.heap.size, 0, none⟩)) (w' := W.alloc (.cells #[.int .u64 0, .int .u32 0] 34)) (by clear hdep; go_simp) ?_
          have hF2 := hF.swapQ (V' := (fun i => ([.pointer (some ⟨q, 0, none⟩), .pointer (some ⟨q, 0, none⟩), .pointer (some ⟨q, 0, none⟩), .pointer (some ⟨qn, 0, none⟩), .pointer (some ⟨q, 0, none⟩), .pointer (some ⟨q, 0, none⟩), .pointer (some ⟨q, 4, none⟩), .int .i64 (s.at_ : Int), .tuple #[.agg #[.int .u64 (ga : Int), .int .u32 (gx : Int)], .bool false], .tuple #[.agg #[.int .u64 (ga : Int), .int .u32 (gx : Int)], .bool false], .agg #[.int .u64 (ga : Int), .int .u32 (gx : Int)], .bool false, .pointer (some ⟨W.heap.size, 0, none⟩), undef, .bool false][i]?).getD undef)) 12 hn (fun q hq => by
            match q with
            | 0 => rfl
            | 1 => rfl
            | 2 => rfl
            | 3 => rfl
            | 4 => rfl
            | 5 => rfl
            | 6 => rfl
            | 7 => rfl
            | 8 => rfl
            | 9 => rfl
            | 10 => rfl
            | 11 => rfl
            | 12 => exact absurd rfl hq
            | 13 => rfl
            | 14 => rfl
            | q + 15 => rfl)
          have h13 : l.getD 13 false = false := by
            cases e : l.getD 13 false with
            | false => rfl
            | true => exact absurd (hV e) (by rw [getD_tf hn]; exact Bool.false_ne_true)
          exact ⟨by simp [hl], hsz, hW.trans (hb.mono hW.size), W.heap.size, (fun _ => BoxF.new h13 (by decide) hW.size), (fun _ => getD_set_self hn), hF2.putK 12 3 _ (by rw [hsz]; decide) rfl rfl⟩
        | 13, ho, hn =>
          simp only [List.getElem?_toArray, List.getElem?_cons_zero, List.getElem?_cons_succ, Option.some.injEq] at ho
          subst ho
          refine ⟨rfl, ?_⟩
          have h3 := hF.slotK (i := 12) (s := 3) (v := .pointer (some ⟨z, 0, none⟩)) rfl (hdep ⟨12, .data⟩ (by simp) rfl) rfl
          have h20 := hF.slotK (i := 10) (s := 20) (v := .agg #[.int .u64 (ga : Int), .int .u32 (gx : Int)]) rfl (hdep ⟨10, .data⟩ (by simp) rfl) rfl
          have h3 := hF.slotK (i := 12) (s := 3) (v := .pointer (some ⟨z, 0, none⟩)) rfl (hdep ⟨12, .data⟩ (by simp) rfl) rfl
          have h20 := hF.slotK (i := 10) (s := 20) (v := .agg #[.int .u64 (ga : Int), .int .u32 (gx : Int)]) rfl (hdep ⟨10, .data⟩ (by simp) rfl) rfl
          have hx := hX3 (hdep ⟨12, .data⟩ (by simp) rfl)
          obtain ⟨hx1, hx2⟩ := hx.put hn
          refine wp_store_row 34 (.tmp 3) (.tmp 20) rfl z #[.int .u64 (ga : Int), .int .u32 (gx : Int)] (by show a.tmps.getD 3 undef = _; rw [Array.getD_eq_getD_getElem?]; exact h3) (by show a.tmps.getD 20 undef = _; rw [Array.getD_eq_getD_getElem?]; exact h20) 34 #[.int .u64 0, .int .u32 0] hx1 (by kernel_rfl) rfl (by simp [Value.oneCell']) ?_
          exact ⟨by simp [hl], hsz, below_setRow hW hx.1 _, z, (fun _ => hx2), (fun _ => by rw [getD_set (by decide)]; exact hdep ⟨12, .data⟩ (by simp) rfl), hF.skipK 13 (by decide)⟩
        | 14, ho, hn =>
          simp only [List.getElem?_toArray, List.getElem?_cons_zero, List.getElem?_cons_succ, Option.some.injEq] at ho
          subst ho
          refine ⟨rfl, ?_⟩
          have h21 := hF.slotK (i := 11) (s := 21) (v := .bool false) rfl (hdep ⟨11, .data⟩ (by simp) rfl) rfl
          exact owp_value (.bool false) (w' := W) (by clear hdep; go_simp) ⟨by simp [hl], hsz, hW, z, (fun h => ((hX3 (by rw [getD_set (by decide)] at h; exact h))).on (show 13 ≠ 14 by decide) (Below.refl _ _)), (fun h => by rw [getD_set (by decide)] at h ⊢; exact hV h), hF.putK 14 4 _ (by rw [hsz]; decide) rfl rfl⟩
        | i5 + 15, ho, hn => simp at ho
      · intro l a W1 hI hall
        obtain ⟨_, _, hW1, z, hX3, hV, hF⟩ := hI
        have hall : ∀ i, i < 15 → l.getD i false = true := hall
        have ha := FrU.allQ (K := ([(0, 11), (1, 12), (2, 13), (3, 14), (4, 15), (5, 16), (6, 17), (7, 18), (8, 19), (9, 10), (10, 20), (11, 21), (12, 3), (14, 4)] : List (Nat × Nat))) (V := (fun i => ([.pointer (some ⟨q, 0, none⟩), .pointer (some ⟨q, 0, none⟩), .pointer (some ⟨q, 0, none⟩), .pointer (some ⟨qn, 0, none⟩), .pointer (some ⟨q, 0, none⟩), .pointer (some ⟨q, 0, none⟩), .pointer (some ⟨q, 4, none⟩), .int .i64 (s.at_ : Int), .tuple #[.agg #[.int .u64 (ga : Int), .int .u32 (gx : Int)], .bool false], .tuple #[.agg #[.int .u64 (ga : Int), .int .u32 (gx : Int)], .bool false], .agg #[.int .u64 (ga : Int), .int .u32 (gx : Int)], .bool false, .pointer (some ⟨z, 0, none⟩), undef, .bool false][i]?).getD undef)) (BL := ([(0, 11, .pointer (some ⟨q, 0, none⟩)), (1, 12, .pointer (some ⟨q, 0, none⟩)), (2, 13, .pointer (some ⟨q, 0, none⟩)), (3, 14, .pointer (some ⟨qn, 0, none⟩)), (4, 15, .pointer (some ⟨q, 0, none⟩)), (5, 16, .pointer (some ⟨q, 0, none⟩)), (6, 17, .pointer (some ⟨q, 4, none⟩)), (7, 18, .int .i64 (s.at_ : Int)), (8, 19, .tuple #[.agg #[.int .u64 (ga : Int), .int .u32 (gx : Int)], .bool false]), (9, 10, .tuple #[.agg #[.int .u64 (ga : Int), .int .u32 (gx : Int)], .bool false]), (10, 20, .agg #[.int .u64 (ga : Int), .int .u32 (gx : Int)]), (11, 21, .bool false), (12, 3, .pointer (some ⟨z, 0, none⟩)), (14, 4, .bool false)] : List (Nat × Nat × Value))) hF rfl (n := 15) hall rfl
        subst ha
        have HW1 := Lib.hid hW1
        have HX3 := Lib.hid (hX3 (hall 12 (by decide)))
        have HL13 := Lib.hid (hall 13 (by decide))
        clear hF hall hW1 hV hX3
        refine hKc _ _ ?_
        simp only [setAll, List.setIfInBounds_toArray, List.set_cons_succ, List.set_cons_zero]
        have HR4 : Hid (W1.heap[z]? = some (.cells #[.int .u64 (ga : Int), .int .u32 (gx : Int)] 34 (0, 0))) := Lib.hid (by
          have h := HX3.out.2
          rw [HL13.out] at h
          exact h)
        have HRL := Lib.hid HX3.out.1
        have HG4 := Lib.hid (HG.out.step HW1.out)
        have HB4 := HW1
        clear HX3 HL13 HW1 X0 X4
        generalize W1 = v4 at *
        generalize z = r at *
        have HM1 : Hid (s.moved.mv = true) := Lib.hid ((Gr.moved_mv s).trans HMV.out)
        have HN1 : Hid (s.moved.now.n = n) := Lib.hid ((Gr.moved_n s).trans HN.out.symm)
        have HA1 : Hid (at_ = s.moved.at_) := Lib.hid (HA.out.trans (Gr.moved_at s).symm)
        have HS1 : Hid (s.moved = s) := Lib.hid (by unfold Gr.moved; rw [if_neg (by rw [HF.out]; exact Bool.false_ne_true)])
        have HGn : Hid (RG v4 q qn qx s.moved G Gn Gx) := Lib.hid (by rw [HS1.out]; exact HG4.out)
        have HXn : Hid (ExtG G G w v4) := Lib.hid (ExtG.of_below HB4.out)
        have HQN := Lib.hid (rg_len HGn.out HN1.out)
        clear HS1 HG4 HR4 HB4 HRL
        obtain ⟨AE, cE, hE⟩ := tlen_c HGn.out.now
        rw [HN1.out] at hE
        have HE := Lib.hid hE
        have hq := HGn.out.blk
        rw [HM1.out] at hq
        have x4 : v4.cell? ⟨q, 4, none⟩ = some (.int .i64 (at_ : Int)) := by rw [HA1.out]; exact blk_cell hq 4
        have f4 := blk_free hq 4
        have HQa := Lib.hid hq
        clear hq hE
        go_upto_region 8 with fail
        have HQb : Hid ((v4.setCell ⟨q, 4, none⟩ (.int .i64 ((at_ : Int) + 1))).heap[q]? = some (.cells #[.pointer (some ⟨qn, 0, none⟩), .pointer (some ⟨qx, 0, none⟩), .bool true, .int .i64 (s.moved.most : Int), .int .i64 ((at_ : Int) + 1)] 63 (0, 0))) := Lib.hid (blk_set HQa.out 4 _)
        have HKb : Hid (Kept (fun k => k = q) v4 (v4.setCell ⟨q, 4, none⟩ (.int .i64 ((at_ : Int) + 1)))) := Lib.hid ((Kept.refl (fun k => k = q) v4).setCell (p := ⟨q, 4, none⟩) (.inl rfl) _)
        clear x4 f4 HQa
        generalize v4.setCell ⟨q, 4, none⟩ (.int .i64 ((at_ : Int) + 1)) = va at *
        have HGb := Lib.hid (HGn.out.turn HKb.out (s' := ⟨s.moved.now, s.moved.next, true, s.moved.most, at_ + 1⟩) HQb.out rfl fun _ => ⟨HM1.out, rfl⟩)
        have z0 : ∀ W : Stay va, W.w.cell? ⟨q, 0, none⟩ = some (.pointer (some ⟨qn, 0, none⟩)) := fun W => Stay.cell (blk_cell HQb.out 0) W
        have z4 : ∀ W : Stay va, W.w.cell? ⟨q, 4, none⟩ = some (.int .i64 ((at_ : Int) + 1)) := fun W => Stay.cell (blk_cell HQb.out 4) W
        have zn : ∀ W : Stay va, W.w.cell? ⟨qn, 2, none⟩ = some (.slice AE n cE) := fun W => Stay.cell (HQN.out AE cE HE.out HKb.out) W
        refine wp_region_stay (by kernel_rfl) (by kernel_rfl) ?_
        repeat (go_big_quiet_step (fail))
        refine wpQuiet_nil ?_
        intro w' hw'
        obtain ⟨W, rfl⟩ := hw'
        have HGc := Lib.hid (HGb.out.1.step W.below)
        have HXc := Lib.hid ((HXn.out.trans HGb.out.2).trans (ExtG.of_below W.below))
        have HQc : Hid (W.w.heap[q]? = some (.cells #[.pointer (some ⟨qn, 0, none⟩), .pointer (some ⟨qx, 0, none⟩), .bool true, .int .i64 (s.moved.most : Int), .int .i64 ((at_ : Int) + 1)] 63 (0, 0))) := Lib.hid ((W.below.block q (lt_heap HQb.out)).trans HQb.out)
        clear z0 z4 zn HGb HKb HQb HQN HE
        generalize W.w = vc at *
        by_cases ce : at_ + 1 = n
        · have ce' : (at_ : Int) + 1 = (n : Int) := by omega
          have HC := Lib.hid ce
          have y1 : vc.cell? ⟨q, 1, none⟩ = some (.pointer (some ⟨qx, 0, none⟩)) := blk_cell HQc.out 1
          have y0 : vc.cell? ⟨q, 0, none⟩ = some (.pointer (some ⟨qn, 0, none⟩)) := blk_cell HQc.out 0
          have g0 := blk_free HQc.out 0
          clear ce
          go_upto_region 10 with fail
          have HQd : Hid ((vc.setCell ⟨q, 0, none⟩ (.pointer (some ⟨qx, 0, none⟩))).heap[q]? = some (.cells #[.pointer (some ⟨qx, 0, none⟩), .pointer (some ⟨qx, 0, none⟩), .bool true, .int .i64 (s.moved.most : Int), .int .i64 ((at_ : Int) + 1)] 63 (0, 0))) := Lib.hid (blk_set HQc.out 0 _)
          have HKd : Hid (Kept (fun k => k = q) vc (vc.setCell ⟨q, 0, none⟩ (.pointer (some ⟨qx, 0, none⟩)))) := Lib.hid ((Kept.refl (fun k => k = q) vc).setCell (p := ⟨q, 0, none⟩) (.inl rfl) _)
          clear y1 y0 g0
          generalize vc.setCell ⟨q, 0, none⟩ (.pointer (some ⟨qx, 0, none⟩)) = vd at *
          have y1 : vd.cell? ⟨q, 1, none⟩ = some (.pointer (some ⟨qx, 0, none⟩)) := blk_cell HQd.out 1
          have g1 := blk_free HQd.out 1
          go_upto_region 11 with fail
          have HQe : Hid ((vd.setCell ⟨q, 1, none⟩ (.pointer none)).heap[q]? = some (.cells #[.pointer (some ⟨qx, 0, none⟩), .pointer none, .bool true, .int .i64 (s.moved.most : Int), .int .i64 ((at_ : Int) + 1)] 63 (0, 0))) := Lib.hid (blk_set HQd.out 1 _)
          have HKe := Lib.hid (HKd.out.setCell (p := ⟨q, 1, none⟩) (.inl rfl) (.pointer none))
          clear y1 g1
          generalize vd.setCell ⟨q, 1, none⟩ (.pointer none) = ve at *
          have y2 : ve.cell? ⟨q, 2, none⟩ = some (.bool true) := blk_cell HQe.out 2
          have g2 := blk_free HQe.out 2
          go_upto_region 12 with fail
          have HQf : Hid ((ve.setCell ⟨q, 2, none⟩ (.bool false)).heap[q]? = some (.cells #[.pointer (some ⟨qx, 0, none⟩), .pointer none, .bool false, .int .i64 (s.moved.most : Int), .int .i64 ((at_ : Int) + 1)] 63 (0, 0))) := Lib.hid (blk_set HQe.out 2 _)
          have HKf := Lib.hid (HKe.out.setCell (p := ⟨q, 2, none⟩) (.inl rfl) (.bool false))
          clear y2 g2
          generalize ve.setCell ⟨q, 2, none⟩ (.bool false) = vf at *
          have y2 : vf.cell? ⟨q, 2, none⟩ = some (.bool false) := blk_cell HQf.out 2
          go_wp2_with fail
          go_ret
          have hst : s.st = ⟨s.moved.next, s.moved.next, false, s.moved.most, at_ + 1⟩ := by
            unfold Gr.st
            rw [HMV.out, if_pos rfl]
            unfold Gr.on
            rw [← HA1.out, HN1.out, if_pos HC.out]
          rw [hst]
          have hen := HGc.out.ended rfl HKf.out (at' := at_ + 1) HQf.out
          exact ⟨rfl, _, ⟨_, _, _, _, hen.1⟩, HXc.out.trans hen.2⟩
        · have ce' : ¬ (at_ : Int) + 1 = (n : Int) := by omega
          have HC := Lib.hid ce
          have y2 : vc.cell? ⟨q, 2, none⟩ = some (.bool true) := blk_cell HQc.out 2
          clear ce
          go_wp2_with fail
          go_ret
          have hst : s.st = ⟨s.moved.now, s.moved.next, true, s.moved.most, at_ + 1⟩ := by
            unfold Gr.st
            rw [HMV.out, if_pos rfl]
            unfold Gr.on
            rw [← HA1.out, HN1.out, if_neg HC.out, HM1.out]
          rw [hst]
          exact ⟨rfl, _, ⟨_, _, _, _, HGc.out⟩, HXc.out⟩
end
end Go.Proofs.Ythjghofjdcepmaa
