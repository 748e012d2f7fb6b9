import Derived.Test.YthjghofjdcepmaaGm35
import Derived.Test.YthjghofjdcepmaaGm32
/- Stage 14: ResizePlays. -/
namespace Go.Proofs.Ythjghofjdcepmaa
set_option maxRecDepth 100000
open Go.RowKit Go.Shelf
def opIf {σ : Type} (b : Bool) (f : σ → σ) (s : σ) : σ := if b then f s else s
theorem opIf_ne {σ : Type} {l : Array Bool} {i j : Nat} {f : σ → σ} (h : j ≠ i) (s : σ) : opIf ((l.setIfInBounds i true).getD j false) f s = opIf (l.getD j false) f s := by rw [getD_set h]
theorem opIf_at {σ : Type} {l : Array Bool} {i : Nat} {f : σ → σ} (h : l.getD i true = false) (s : σ) : opIf ((l.setIfInBounds i true).getD i false) f s = f s := by
  rw [getD_set_self h]
  rfl
section
variable {w W : World} {q : Nat} {s : Gr} {G : Nat → Prop}
theorem gput_ext (hG : RGA W q s G) (hs : s.Ok) (h x : Nat) (hh : h < 18446744073709551616) (hx : x < 4294967296) : Calls Try.prog 11 #[.pointer (some ⟨q, 0, none⟩), .agg #[.int .u64 (h : Int), .int .u32 (x : Int)]] W fun e w' => e = .returned (.int .i64 (s.ptE h)) ∧ ∃ G', RGA w' q (s.pt h x) G' ∧ ExtG G G' W w' := by
  obtain ⟨_, _, _, _, hX⟩ := hG
  exact rgput_any hX hs h x hh hx
theorem gdrop_ext (hG : RGA W q s G) (hs : s.Ok) (h x : Nat) (hh : h < 18446744073709551616) (hx : x < 4294967296) : Calls Try.prog 13 #[.pointer (some ⟨q, 0, none⟩), .agg #[.int .u64 (h : Int), .int .u32 (x : Int)]] W fun e w' => e = .returned (.int .i64 (s.drE h x)) ∧ ∃ G', RGA w' q (s.dr h x) G' ∧ ExtG G G' W w' := by
  obtain ⟨_, _, _, _, hX⟩ := hG
  exact rgdrop_any hX hs h x hh hx
theorem gstep_ext (hG : RGA W q s G) (hs : s.Ok) : Calls Try.prog 15 #[.pointer (some ⟨q, 0, none⟩)] W fun e w' => e = .returned (.bool s.st.mv) ∧ ∃ G', RGA w' q s.st G' ∧ ExtG G G' W w' := by
  obtain ⟨_, _, _, _, hX⟩ := hG
  exact rstep_any hX hs
end
section
variable {PG : World → Nat → Gr → (Nat → Prop) → Prop} {g : Nat} {w W : World} {X : Nat → Prop} {p q : Nat} {s : Gr}
theorem gsame_m (HP : GroP PG g) (h : TwG PG RGA w X W p q s s) (hs : s.Ok) (H Y : Nat) (hH : H < 18446744073709551616) (hY : Y < 4294967296) : Calls Try.prog 18 #[.pointer (some ⟨p, 0, none⟩), .pointer (some ⟨q, 0, none⟩), .agg #[.int .u64 (H : Int), .int .u32 (Y : Int)]] W (ret (.bool true) W) := by
  obtain ⟨F, G, hF, hG, _⟩ := h
  exact gsame_any HP hF hG hs H Y hH hY
theorem copy_third (HP : GroP PG g) (h : TwG PG RGA w X W p q s s) (hs : s.Ok) : Calls Try.prog 16 #[.pointer (some ⟨p, 0, none⟩)] W fun e w' => ∃ b, e = .returned (.pointer (some ⟨b, 0, none⟩)) ∧ ∃ Y, (∀ k, X k → Y k) ∧ StG PG w Y w' b s ∧ (∀ w2 : World, (∀ k, Y k → w2.heap[k]? = w'.heap[k]?) → Below w.heap.size w w2 → w'.heap.size ≤ w2.heap.size → TwG PG RGA w X w2 p q s s) ∧ ∀ k, X k → w'.heap[k]? = W.heap[k]? := by
  have hT := h
  have hx := h.xold
  obtain ⟨F, G, hF, _⟩ := h
  refine (HP.copy hF hs).mono ?_
  rintro e w' ⟨b, F', rfl, hc, hn, hb⟩
  obtain ⟨Y, h1, h2, h3⟩ := hT.third HP.foot gFoot hb hc hn
  exact ⟨b, rfl, Y, h1, h2, h3, fun k hk => hb.block k (hx k hk)⟩
theorem copy_three (HP : GroP PG g) (h : TwG PG RGA w X W p q s s) (hs : s.Ok) : Calls Try.prog 16 #[.pointer (some ⟨p, 0, none⟩)] W fun e w' => ∃ b, e = .returned (.pointer (some ⟨b, 0, none⟩)) ∧ ∃ Y, (∀ k, X k → Y k) ∧ StG PG w Y w' p s ∧ (∀ w2 : World, (∀ k, Y k → w2.heap[k]? = w'.heap[k]?) → Below w.heap.size w w2 → w'.heap.size ≤ w2.heap.size → TwG PG RGA w X w2 b q s s) ∧ ∀ k, X k → w'.heap[k]? = W.heap[k]? := by
  have hT := h
  have hx := h.xold
  obtain ⟨F, G, hF, _⟩ := h
  refine (HP.copy hF hs).mono ?_
  rintro e w' ⟨b, F', rfl, hc, hn, hb⟩
  obtain ⟨Y, h1, h2, h3⟩ := hT.three HP.foot gFoot HP.foot hb hc hn
  exact ⟨b, rfl, Y, h1, h2, h3, fun k hk => hb.block k (hx k hk)⟩
/-- A call on one object; the world grows. -/
theorem callS {σ : Type} {PA : World → Nat → σ → (Nat → Prop) → Prop} {t s' : σ} {fn : FuncId} {args : Array Value} {K : Ending → Prop} (h : StG PA w X W p t) (hc : ∀ F, PA W p t F → Calls Try.prog fn args W fun e w' => K e ∧ ∃ F', PA w' p s' F' ∧ ExtG F F' W w') :
    Calls Try.prog fn args W fun e w' => K e ∧ StG PA w X w' p s' ∧ (∀ k, X k → w'.heap[k]? = W.heap[k]?) ∧ W.heap.size ≤ w'.heap.size := by
  obtain ⟨F, hF, h1, h2, h3⟩ := h
  refine (hc F hF).mono ?_
  rintro e w' ⟨he, F', hp, hx⟩
  obtain ⟨a, b⟩ := StG.ext h1 h2 h3 hp hx
  exact ⟨he, a, b, hx.kept.size⟩
theorem rgcopy_m (h : TwG PG RGA w X W p q s s) (HC : FootG PG) (hs : s.Ok) : Calls Try.prog 17 #[.pointer (some ⟨q, 0, none⟩)] W fun e w' => ∃ b, e = .returned (.pointer (some ⟨b, 0, none⟩)) ∧ TwG PG RGA w X w' p b s s ∧ ∀ k, X k → w'.heap[k]? = W.heap[k]? := by
  obtain ⟨F, G, hF, ⟨_, _, _, _, hG⟩, h1, h2, h3, h4⟩ := h
  refine (rgcopy_any hG hs).mono ?_
  rintro e w' ⟨b, G', rfl, ha, hsub, hb⟩
  refine ⟨b, rfl, ⟨F, G', HC.keep hF (Kept.of_below hb fun _ => False) (fun _ _ q => q), ha, fun k hk => ⟨(h1 k hk).1, (h1 k hk).2.1, fun g => ?_⟩, fun k hk => ?_, fun k hk => Nat.lt_of_lt_of_le (h3 k hk) hb.size, h4.trans (hb.mono h4.size)⟩, fun k hk => hb.block k (h3 k hk)⟩
  · rcases hsub k g with r | r
    · exact (h1 k hk).2.2 r
    · have := HC.old hF k hk
      omega
  · rcases hsub k hk with r | r
    · exact h2 k r
    · exact ⟨Nat.le_trans h4.size r.1, fun x => by have := h3 k x; omega⟩
theorem gplays_long (HP : GroP PG g) (n : Int) (A : Option Addr) (m c : Nat) (hm : 80 < m) (w : World) : Calls Try.prog 3 #[.int .i64 n, .slice A m c] w (ret (.bool true) w) := by
  have h1 : (80 : Int) < (m : Int) := by omega
  have HK := Lib.hid (gknown_any HP w)
  clear HP
  go_enter Try.func3, Try.ntmps3
  go_wp2_with (go_at_call 6; refine HK.out.mono ?_; rintro e u ⟨rfl, hb⟩)
  go_ret
  exact ⟨rfl, hb⟩
theorem gplays_mid (HP : GroP PG g) (n : Int) (hn : 256 < n) (hn2 : n ≤ 262144) (A : Option Addr) (m c : Nat) (hm : m ≤ 80) (w : World) : Calls Try.prog 3 #[.int .i64 n, .slice A m c] w (ret (.bool true) w) := by
  have h1 : ¬ (80 : Int) < (m : Int) := by omega
  have HK := Lib.hid (gknown_any HP w)
  clear HP
  go_enter Try.func3, Try.ntmps3
  go_wp2_with (go_at_call 6; refine HK.out.mono ?_; rintro e u ⟨rfl, hb⟩)
  go_ret
  exact ⟨rfl, hb⟩
theorem gplays_bad (HP : GroP PG g) (n : Int) (hn : n ≤ 256 ∨ 262144 < n) (hb : growI n = false) (A : Option Addr) (m c : Nat) (hm : m ≤ 80) (w : World) : Calls Try.prog 3 #[.int .i64 n, .slice A m c] w (ret (.bool true) w) := by
  have h1 : ¬ (80 : Int) < (m : Int) := by omega
  have HN := Lib.hid (HP.new_no n w hb)
  have HM := Lib.hid fun W => rmay_any n W
  have hc : n < 16 ∨ ¬ n < 16 ∧ mayI n = false := by
    unfold growI at hb
    by_cases q : n < 16
    · exact .inl q
    · rw [decide_eq_true (by omega), Bool.true_and] at hb
      exact .inr ⟨q, hb⟩
  have HK := Lib.hid fun W => gknown_any HP W
  clear HP hb
  rcases hn with hn | hn
  · have h2 : ¬ 256 < n := by omega
    rcases hc with hc | ⟨hc, hm2⟩
    · go_enter Try.func3, Try.ntmps3
      go_wp2_with (first
        | (go_at_call 7
           refine HN.out.mono ?_
           rintro e v ⟨rfl, hb⟩
           have HB := Lib.hid hb
           clear hb)
        | (go_at_call 8
           refine (HM.out _).mono ?_
           rintro e v2 ⟨rfl, hb⟩
           have HB := Lib.hid (HB.out.trans (hb.mono HB.out.size))
           clear hb)
        | (go_at_call 6
           refine (HK.out _).mono ?_
           rintro e v3 ⟨rfl, hb⟩
           have HB3 := Lib.hid (HB.out.trans (hb.mono HB.out.size))
           clear hb))
      go_ret
      exact ⟨rfl, HB3.out⟩
    · rw [hm2] at HM
      clear hm2
      go_enter Try.func3, Try.ntmps3
      go_wp2_with (first
        | (go_at_call 7
           refine HN.out.mono ?_
           rintro e v ⟨rfl, hb⟩
           have HB := Lib.hid hb
           clear hb)
        | (go_at_call 8
           refine (HM.out _).mono ?_
           rintro e v2 ⟨rfl, hb⟩
           have HB := Lib.hid (HB.out.trans (hb.mono HB.out.size))
           clear hb)
        | (go_at_call 6
           refine (HK.out _).mono ?_
           rintro e v3 ⟨rfl, hb⟩
           have HB3 := Lib.hid (HB.out.trans (hb.mono HB.out.size))
           clear hb))
      go_ret
      exact ⟨rfl, HB3.out⟩
  · have h2 : 256 < n := by omega
    have h3 : ¬ n ≤ 262144 := by omega
    rcases hc with hc | ⟨hc, hm2⟩
    · omega
    · rw [hm2] at HM
      clear hm2
      go_enter Try.func3, Try.ntmps3
      go_wp2_with (first
        | (go_at_call 7
           refine HN.out.mono ?_
           rintro e v ⟨rfl, hb⟩
           have HB := Lib.hid hb
           clear hb)
        | (go_at_call 8
           refine (HM.out _).mono ?_
           rintro e v2 ⟨rfl, hb⟩
           have HB := Lib.hid (HB.out.trans (hb.mono HB.out.size))
           clear hb)
        | (go_at_call 6
           refine (HK.out _).mono ?_
           rintro e v3 ⟨rfl, hb⟩
           have HB3 := Lib.hid (HB.out.trans (hb.mono HB.out.size))
           clear hb))
      go_ret
      exact ⟨rfl, HB3.out⟩
set_option maxHeartbeats 8000000 in
theorem gplays_any (HP0 : GroP PG g) (n : Nat) (hn2 : n ≤ 256) (hgr : growI (n : Int) = true) (A : Option Addr) (m c : Nat) (f : Nat → Value) (hm : m ≤ 80) (hmc : m ≤ c) (hc9 : c ≤ 9223372036854775807) (w : World) (hr : RdC w w.heap.size A (m * 4) f)
    (hf : ∀ i, i < m → ∃ (κ : Int) (N h x : Nat), N < 256 ∧ h < 18446744073709551616 ∧ x < 4294967296 ∧ f (i * 4) = .int .i64 κ ∧ f (i * 4 + 1) = .int .u8 (N : Int) ∧ f (i * 4 + 2) = .int .u64 (h : Int) ∧ f (i * 4 + 3) = .int .u32 (x : Int)) :
    Calls Try.prog 3 #[.int .i64 (n : Int), .slice A m c] w (ret (.bool true) w) := by
  have h1 : ¬ (80 : Int) < (m : Int) := by omega
  have h2 : ¬ (256 : Int) < (n : Int) := by omega
  have HP := Lib.hid HP0
  have HR := Lib.hid hr
  have HF := Lib.hid hf
  have HNW := Lib.hid (HP0.new n w hgr)
  have HMY := Lib.hid fun W => rmay_any (n : Int) W
  unfold growI at hgr
  rw [Bool.and_eq_true, decide_eq_true_eq] at hgr
  have h16 : ¬ (n : Int) < 16 := by omega
  rw [hgr.2] at HMY
  have HRN := Lib.hid fun W => rgnew_any W n
  have HOKN := Lib.hid (Gr.ok_new (show 16 ≤ n by omega) (show n ≤ 262144 by omega))
  clear hr hf HP0 hgr
  go_enter Try.func3, Try.ntmps3
  go_upto_region 9 with (first
    | (go_at_call 7
       refine HNW.out.mono ?_
       rintro e u ⟨p0, F0, rfl, hp, hF0, hb⟩
       have HSP := Lib.hid (StG.start ⟨F0, hp, hF0⟩ hb)
       clear hp hF0 hb)
    | (go_at_call 8
       refine (HMY.out _).mono ?_
       rintro e u1 ⟨rfl, hb⟩
       have HSQ := Lib.hid (HSP.out.step HP.out.foot hb)
       clear hb)
    | (go_at_call 9
       refine (HRN.out _).mono ?_
       rintro e v ⟨q0, G0, rfl, hq, hG0, hb⟩
       have HT := Lib.hid (HSQ.out.beside HP.out.foot hb hq fun k hk => (hG0 k hk).1)
       clear hq hG0 hb))
  clear HSP HSQ
  go_wp2_with fail
  go_loopw [5, 7, 56] (fun a b i wr => ∃ (k p q : Nat) (s : Gr), k ≤ m ∧ a = .pointer (some ⟨p, 0, none⟩) ∧ b = .pointer (some ⟨q, 0, none⟩) ∧ i = .int .i64 (k : Int) ∧ s.Ok ∧ TwG PG RGA w (fun _ => False) wr p q s s) (fun _ _ i _ => m - (intOf i).toNat)
  case atStart => exact ⟨0, p0, q0, Gr.new n, Nat.zero_le _, rfl, rfl, rfl, HOKN.out, HT.out⟩
  case round =>
    obtain ⟨k, p, q, s, hkm0, rfl, rfl, rfl, hS, hT⟩ := hrel
    have HS := Lib.hid hS
    have HTr := Lib.hid hT
    clear hS hT HT
    by_cases hkm : k < m
    · rcases HR.out with h0 | ⟨bA, off, rfl, hbl, hcl⟩
      · omega
      obtain ⟨κ, N, h, x, hN, hh, hx, hf0, hf1, hf2, hf3⟩ := HF.out k hkm
      have HNB := Lib.hid hN
      have HH := Lib.hid hh
      have HXX := Lib.hid hx
      have hcell : ∀ j, j < 4 → wr.cell? ⟨bA, off + (k * 4 + j), none⟩ = some (f (k * 4 + j)) := fun j hj => (HTr.out.below.cell (p := ⟨bA, off + (k * 4 + j), none⟩) hbl).trans (hcl _ (by omega))
      have z0 : wr.cell? ⟨bA, off + k * 4, none⟩ = some (.int .i64 κ) := by rw [← hf0]; exact hcell 0 (by omega)
      have z1 : wr.cell? ⟨bA, off + k * 4 + 1, none⟩ = some (.int .u8 (N : Int)) := by rw [← hf1, Nat.add_assoc]; exact hcell 1 (by omega)
      have z2 : wr.cell? ⟨bA, off + k * 4 + 2, none⟩ = some (.int .u64 (h : Int)) := by rw [← hf2, Nat.add_assoc]; exact hcell 2 (by omega)
      have z3 : wr.cell? ⟨bA, off + k * 4 + 3, none⟩ = some (.int .u32 (x : Int)) := by rw [← hf3, Nat.add_assoc]; exact hcell 3 (by omega)
      clear hcell hcl hf0 hf1 hf2 hf3 hN hh hx
      have i0 : (0 : Int) ≤ (k : Int) := by omega
      have i1 : (k : Int) < (m : Int) := by omega
      have i2 : ((k : Int)).toNat = k := by omega
      go_upto_region 12 with fail
      have HT1 := Lib.hid (HTr.out.box HP.out.foot gFoot (.cells #[.int .i64 κ, .int .u8 (N : Int), .int .u64 (h : Int), .int .u32 (x : Int)] 36))
      have HO1 : Hid ((wr.alloc (.cells #[.int .i64 κ, .int .u8 (N : Int), .int .u64 (h : Int), .int .u32 (x : Int)] 36)).heap[wr.heap.size]? = some (.cells #[.int .i64 κ, .int .u8 (N : Int), .int .u64 (h : Int), .int .u32 (x : Int)] 36 (0, 0))) := Lib.hid (heap_alloc_new wr _)
      obtain ⟨b9, hb9⟩ : ∃ b, b = wr.heap.size := ⟨_, rfl⟩
      rw [← hb9] at HT1 HO1 ⊢
      clear hb9 HTr z0 z1 z2 z3 HR HF i0 i1 i2 HNW HMY HRN HOKN
      generalize wr.alloc (.cells #[.int .i64 κ, .int .u8 (N : Int), .int .u64 (h : Int), .int .u32 (x : Int)] 36) = v1 at *
      have x0 : v1.cell? ⟨b9, 0, none⟩ = some (.int .i64 κ) := blk_cell HO1.out 0
      have zk : IntKind.i64.wrap ((k : Int) + 1) = (k : Int) + 1 := by rw [IntKind.wrap_i64]; omega
      go_upto_region 14 with fail
      clear x0
      by_cases c1 : κ = 1
      · subst c1
        have HOK : Hid ((s.pt h x).Ok) := Lib.hid (Gr.ok_pt HS.out HH.out HXX.out)
        obtain ⟨EE, hEE⟩ : ∃ E, E = s.ptE h := ⟨_, rfl⟩
        have HEE := Lib.hid hEE
        clear hEE
        go_upto_region 15 with fail
        rename_i Kc hKc
        refine wp_region_invG (fun a0 l a W => l.size = 10 ∧ a0.tmps.size = 134 ∧ TwG PG RGA w (fun k => False ∨ k = b9) W p q (opIf (l.getD 3 false) (fun s => s.pt h x) s) (opIf (l.getD 7 false) (fun s => s.pt h x) s) ∧ W.heap[b9]? = some (.cells #[.int .i64 1, .int .u8 (N : Int), .int .u64 (h : Int), .int .u32 (x : Int)] 36 (0, 0)) ∧ FrU a0 (kv ([(0, 64), (1, 65), (2, 66), (3, 67), (4, 68), (5, 69), (6, 70), (7, 71), (8, 72), (9, 10)] : List (Nat × Nat)) (fun i => ([.pointer (some ⟨p, 0, none⟩), .pointer (some ⟨b9, 2, none⟩), .agg #[.int .u64 (h : Int), .int .u32 (x : Int)], .int .i64 EE, .pointer (some ⟨q, 0, none⟩), .pointer (some ⟨b9, 2, none⟩), .agg #[.int .u64 (h : Int), .int .u32 (x : Int)], .int .i64 EE, .bool true, .bool true][i]?).getD undef)) l a) ?_ ?_ ?_ ?_ ?_ ?_
        · kernel_rfl
        · exact fun _ _ _ h => h.1
        · kernel_rfl
        · exact ⟨by simp, rfl, by rw [getD_none, getD_none]; exact HT1.out.step HP.out.foot gFoot (Below.refl _ _).drew, HO1.out, FrU.start _ _ _⟩
        · intro l a W i5 o hI ho hn hdep
          obtain ⟨hl, hsz, hT, hO, hF⟩ := hI
          match i5, ho, hn with
          | 0, ho, hn =>
            simp only [List.getElem?_toArray, List.getElem?_cons_zero, Option.some.injEq] at ho
            subst ho
            refine ⟨rfl, ?_⟩
            have h5 : a.tmps[5]?.getD undef = .pointer (some ⟨p, 0, none⟩) := hF.baseK 5 rfl rfl
            exact owp_value (.pointer (some ⟨p, 0, none⟩)) (w' := W) (by clear hdep; go_simp) ⟨by simp [hl], hsz, by rw [opIf_ne (by decide), opIf_ne (by decide)]; exact hT, hO, hF.putK 0 64 _ (by rw [hsz]; decide) rfl rfl⟩
          | 1, ho, hn =>
            simp only [List.getElem?_toArray, List.getElem?_cons_zero, List.getElem?_cons_succ, Option.some.injEq] at ho
            subst ho
            refine ⟨rfl, ?_⟩
            have h9 : a.tmps[9]?.getD undef = .pointer (some ⟨b9, 0, none⟩) := hF.baseK 9 rfl rfl
            exact owp_value (.pointer (some ⟨b9, 2, none⟩)) (w' := W) (by clear hdep; go_simp) ⟨by simp [hl], hsz, by rw [opIf_ne (by decide), opIf_ne (by decide)]; exact hT, hO, hF.putK 1 65 _ (by rw [hsz]; decide) rfl rfl⟩
          | 2, ho, hn =>
            simp only [List.getElem?_toArray, List.getElem?_cons_zero, List.getElem?_cons_succ, Option.some.injEq] at ho
            subst ho
            refine ⟨rfl, ?_⟩
            have h65 := hF.slotK (i := 1) (s := 65) (v := .pointer (some ⟨b9, 2, none⟩)) rfl (hdep ⟨1, .data⟩ (by simp) rfl) rfl
            have hx2 : W.cell? ⟨b9, 2, none⟩ = some (.int .u64 (h : Int)) := blk_cell hO 2
            have hx3 : W.cell? ⟨b9, 3, none⟩ = some (.int .u32 (x : Int)) := blk_cell hO 3
            exact owp_value (.agg #[.int .u64 (h : Int), .int .u32 (x : Int)]) (w' := W) (by clear hdep; go_simp) ⟨by simp [hl], hsz, by rw [opIf_ne (by decide), opIf_ne (by decide)]; exact hT, hO, hF.putK 2 66 _ (by rw [hsz]; decide) rfl rfl⟩
          | 3, ho, hn =>
            simp only [List.getElem?_toArray, List.getElem?_cons_zero, List.getElem?_cons_succ, Option.some.injEq] at ho
            subst ho
            refine ⟨rfl, ?_⟩
            have h64 := hF.slotK (i := 0) (s := 64) (v := .pointer (some ⟨p, 0, none⟩)) rfl (hdep ⟨0, .data⟩ (by simp) rfl) rfl
            have h66 := hF.slotK (i := 2) (s := 66) (v := .agg #[.int .u64 (h : Int), .int .u32 (x : Int)]) rfl (hdep ⟨2, .data⟩ (by simp) rfl) rfl
            rw [getD_no hn] at hT
            have hTs : TwG PG RGA w (fun k => False ∨ k = b9) W p q s (opIf (l.getD 7 false) (fun s => s.pt h x) s) := hT
            refine owp_call (fn := 10) (args := #[.pointer (some ⟨p, 0, none⟩), .agg #[.int .u64 (h : Int), .int .u32 (x : Int)]]) (by clear hdep; go_simp) ?_
            refine (hTs.callL gFoot fun G hG => HP.out.put hG HS.out h x HH.out HXX.out).mono ?_
            rintro e w' ⟨rfl, ht, hx⟩
            rw [← HEE.out]
            exact ⟨_, rfl, by simp [hl], hsz, by rw [opIf_at hn, opIf_ne (show 7 ≠ 3 by decide)]; exact ht, (hx b9 (.inr rfl)).trans hO, hF.putK 3 67 _ (by rw [hsz]; decide) rfl rfl⟩
          | 4, ho, hn =>
            simp only [List.getElem?_toArray, List.getElem?_cons_zero, List.getElem?_cons_succ, Option.some.injEq] at ho
            subst ho
            refine ⟨rfl, ?_⟩
            have h7 : a.tmps[7]?.getD undef = .pointer (some ⟨q, 0, none⟩) := hF.baseK 7 rfl rfl
            exact owp_value (.pointer (some ⟨q, 0, none⟩)) (w' := W) (by clear hdep; go_simp) ⟨by simp [hl], hsz, by rw [opIf_ne (by decide), opIf_ne (by decide)]; exact hT, hO, hF.putK 4 68 _ (by rw [hsz]; decide) rfl rfl⟩
          | 5, ho, hn =>
            simp only [List.getElem?_toArray, List.getElem?_cons_zero, List.getElem?_cons_succ, Option.some.injEq] at ho
            subst ho
            refine ⟨rfl, ?_⟩
            have h9 : a.tmps[9]?.getD undef = .pointer (some ⟨b9, 0, none⟩) := hF.baseK 9 rfl rfl
            exact owp_value (.pointer (some ⟨b9, 2, none⟩)) (w' := W) (by clear hdep; go_simp) ⟨by simp [hl], hsz, by rw [opIf_ne (by decide), opIf_ne (by decide)]; exact hT, hO, hF.putK 5 69 _ (by rw [hsz]; decide) rfl rfl⟩
          | 6, ho, hn =>
            simp only [List.getElem?_toArray, List.getElem?_cons_zero, List.getElem?_cons_succ, Option.some.injEq] at ho
            subst ho
            refine ⟨rfl, ?_⟩
            have h69 := hF.slotK (i := 5) (s := 69) (v := .pointer (some ⟨b9, 2, none⟩)) rfl (hdep ⟨5, .data⟩ (by simp) rfl) rfl
            have hx2 : W.cell? ⟨b9, 2, none⟩ = some (.int .u64 (h : Int)) := blk_cell hO 2
            have hx3 : W.cell? ⟨b9, 3, none⟩ = some (.int .u32 (x : Int)) := blk_cell hO 3
            exact owp_value (.agg #[.int .u64 (h : Int), .int .u32 (x : Int)]) (w' := W) (by clear hdep; go_simp) ⟨by simp [hl], hsz, by rw [opIf_ne (by decide), opIf_ne (by decide)]; exact hT, hO, hF.putK 6 70 _ (by rw [hsz]; decide) rfl rfl⟩
          | 7, ho, hn =>
            simp only [List.getElem?_toArray, List.getElem?_cons_zero, List.getElem?_cons_succ, Option.some.injEq] at ho
            subst ho
            refine ⟨rfl, ?_⟩
            have h68 := hF.slotK (i := 4) (s := 68) (v := .pointer (some ⟨q, 0, none⟩)) rfl (hdep ⟨4, .data⟩ (by simp) rfl) rfl
            have h70 := hF.slotK (i := 6) (s := 70) (v := .agg #[.int .u64 (h : Int), .int .u32 (x : Int)]) rfl (hdep ⟨6, .data⟩ (by simp) rfl) rfl
            rw [getD_no hn] at hT
            have hTs : TwG PG RGA w (fun k => False ∨ k = b9) W p q (opIf (l.getD 3 false) (fun s => s.pt h x) s) s := hT
            refine owp_call (fn := 11) (args := #[.pointer (some ⟨q, 0, none⟩), .agg #[.int .u64 (h : Int), .int .u32 (x : Int)]]) (by clear hdep; go_simp) ?_
            refine (hTs.callR HP.out.foot fun G hG => gput_ext hG HS.out h x HH.out HXX.out).mono ?_
            rintro e w' ⟨rfl, ht, hx⟩
            rw [← HEE.out]
            exact ⟨_, rfl, by simp [hl], hsz, by rw [opIf_at hn, opIf_ne (show 3 ≠ 7 by decide)]; exact ht, (hx b9 (.inr rfl)).trans hO, hF.putK 7 71 _ (by rw [hsz]; decide) rfl rfl⟩
          | 8, ho, hn =>
            simp only [List.getElem?_toArray, List.getElem?_cons_zero, List.getElem?_cons_succ, Option.some.injEq] at ho
            subst ho
            refine ⟨rfl, ?_⟩
            have h67 := hF.slotK (i := 3) (s := 67) (v := .int .i64 EE) rfl (hdep ⟨3, .data⟩ (by simp) rfl) rfl
            have h71 := hF.slotK (i := 7) (s := 71) (v := .int .i64 EE) rfl (hdep ⟨7, .data⟩ (by simp) rfl) rfl
            exact owp_value (.bool true) (w' := W) (by clear hdep; go_simp) ⟨by simp [hl], hsz, by rw [opIf_ne (by decide), opIf_ne (by decide)]; exact hT, hO, hF.putK 8 72 _ (by rw [hsz]; decide) rfl rfl⟩
          | 9, ho, hn =>
            simp only [List.getElem?_toArray, List.getElem?_cons_zero, List.getElem?_cons_succ, Option.some.injEq] at ho
            subst ho
            refine ⟨rfl, ?_⟩
            have h72 := hF.slotK (i := 8) (s := 72) (v := .bool true) rfl (hdep ⟨8, .data⟩ (by simp) rfl) rfl
            exact owp_value (.bool true) (w' := W) (by clear hdep; go_simp) ⟨by simp [hl], hsz, by rw [opIf_ne (by decide), opIf_ne (by decide)]; exact hT, hO, hF.putK 9 10 _ (by rw [hsz]; decide) rfl rfl⟩
          | i5 + 10, ho, hn => simp at ho
        · intro l a W1 hI hall
          obtain ⟨_, _, hT, hO, hF⟩ := hI
          have hall : ∀ i, i < 10 → l.getD i false = true := hall
          have ha := FrU.allQ (K := ([(0, 64), (1, 65), (2, 66), (3, 67), (4, 68), (5, 69), (6, 70), (7, 71), (8, 72), (9, 10)] : List (Nat × Nat))) (V := (fun i => ([.pointer (some ⟨p, 0, none⟩), .pointer (some ⟨b9, 2, none⟩), .agg #[.int .u64 (h : Int), .int .u32 (x : Int)], .int .i64 EE, .pointer (some ⟨q, 0, none⟩), .pointer (some ⟨b9, 2, none⟩), .agg #[.int .u64 (h : Int), .int .u32 (x : Int)], .int .i64 EE, .bool true, .bool true][i]?).getD undef)) (BL := ([(0, 64, .pointer (some ⟨p, 0, none⟩)), (1, 65, .pointer (some ⟨b9, 2, none⟩)), (2, 66, .agg #[.int .u64 (h : Int), .int .u32 (x : Int)]), (3, 67, .int .i64 EE), (4, 68, .pointer (some ⟨q, 0, none⟩)), (5, 69, .pointer (some ⟨b9, 2, none⟩)), (6, 70, .agg #[.int .u64 (h : Int), .int .u32 (x : Int)]), (7, 71, .int .i64 EE), (8, 72, .bool true), (9, 10, .bool true)] : List (Nat × Nat × Value))) hF rfl (n := 10) hall rfl
          subst ha
          rw [hall 3 (by decide), hall 7 (by decide)] at hT
          have HT2 : Hid (TwG PG RGA w (fun k => False ∨ k = b9) W1 p q (s.pt h x) (s.pt h x)) := Lib.hid hT
          have HO2 := Lib.hid hO
          clear hF hall hT hO HT1 HO1
          refine hKc _ _ ?_
          simp only [setAll, List.setIfInBounds_toArray, List.set_cons_succ, List.set_cons_zero]
          have e0 : W1.cell? ⟨b9, 2, none⟩ = some (.int .u64 (h : Int)) := blk_cell HO2.out 2
          have e1 : W1.cell? ⟨b9, 3, none⟩ = some (.int .u32 (x : Int)) := blk_cell HO2.out 3
          go_wp2_with (first
            | (go_at_call 18
               refine (gsame_m HP.out HT2.out HOK.out h x HH.out HXX.out).mono ?_
               rintro e vz ⟨rfl, hb⟩
               have HTz := Lib.hid ((HT2.out.step HP.out.foot gFoot hb).less (Y := fun _ => False) fun _ h => h.elim)
               clear hb))
          go_roundw
          case rel => exact ⟨k + 1, p, q, s.pt h x, by omega, rfl, rfl, by go_num, HOK.out, HTz.out⟩
          case measure => simp [intOf]; omega
      by_cases c2 : κ = 2
      · subst c2
        have HOK : Hid ((s.dr h x).Ok) := Lib.hid (Gr.ok_dr HS.out h x)
        obtain ⟨EE, hEE⟩ : ∃ E, E = s.drE h x := ⟨_, rfl⟩
        have HEE := Lib.hid hEE
        clear hEE
        go_upto_region 17 with fail
        rename_i Kc hKc
        refine wp_region_invG (fun a0 l a W => l.size = 10 ∧ a0.tmps.size = 134 ∧ TwG PG RGA w (fun k => False ∨ k = b9) W p q (opIf (l.getD 3 false) (fun s => s.dr h x) s) (opIf (l.getD 7 false) (fun s => s.dr h x) s) ∧ W.heap[b9]? = some (.cells #[.int .i64 2, .int .u8 (N : Int), .int .u64 (h : Int), .int .u32 (x : Int)] 36 (0, 0)) ∧ FrU a0 (kv ([(0, 75), (1, 76), (2, 77), (3, 78), (4, 79), (5, 80), (6, 81), (7, 82), (8, 83), (9, 10)] : List (Nat × Nat)) (fun i => ([.pointer (some ⟨p, 0, none⟩), .pointer (some ⟨b9, 2, none⟩), .agg #[.int .u64 (h : Int), .int .u32 (x : Int)], .int .i64 EE, .pointer (some ⟨q, 0, none⟩), .pointer (some ⟨b9, 2, none⟩), .agg #[.int .u64 (h : Int), .int .u32 (x : Int)], .int .i64 EE, .bool true, .bool true][i]?).getD undef)) l a) ?_ ?_ ?_ ?_ ?_ ?_
        · kernel_rfl
        · exact fun _ _ _ h => h.1
        · kernel_rfl
        · exact ⟨by simp, rfl, by rw [getD_none, getD_none]; exact HT1.out.step HP.out.foot gFoot (Below.refl _ _).drew, HO1.out, FrU.start _ _ _⟩
        · intro l a W i5 o hI ho hn hdep
          obtain ⟨hl, hsz, hT, hO, hF⟩ := hI
          match i5, ho, hn with
          | 0, ho, hn =>
            simp only [List.getElem?_toArray, List.getElem?_cons_zero, Option.some.injEq] at ho
            subst ho
            refine ⟨rfl, ?_⟩
            have h5 : a.tmps[5]?.getD undef = .pointer (some ⟨p, 0, none⟩) := hF.baseK 5 rfl rfl
            exact owp_value (.pointer (some ⟨p, 0, none⟩)) (w' := W) (by clear hdep; go_simp) ⟨by simp [hl], hsz, by rw [opIf_ne (by decide), opIf_ne (by decide)]; exact hT, hO, hF.putK 0 75 _ (by rw [hsz]; decide) rfl rfl⟩
          | 1, ho, hn =>
            simp only [List.getElem?_toArray, List.getElem?_cons_zero, List.getElem?_cons_succ, Option.some.injEq] at ho
            subst ho
            refine ⟨rfl, ?_⟩
            have h9 : a.tmps[9]?.getD undef = .pointer (some ⟨b9, 0, none⟩) := hF.baseK 9 rfl rfl
            exact owp_value (.pointer (some ⟨b9, 2, none⟩)) (w' := W) (by clear hdep; go_simp) ⟨by simp [hl], hsz, by rw [opIf_ne (by decide), opIf_ne (by decide)]; exact hT, hO, hF.putK 1 76 _ (by rw [hsz]; decide) rfl rfl⟩
          | 2, ho, hn =>
            simp only [List.getElem?_toArray, List.getElem?_cons_zero, List.getElem?_cons_succ, Option.some.injEq] at ho
            subst ho
            refine ⟨rfl, ?_⟩
            have h76 := hF.slotK (i := 1) (s := 76) (v := .pointer (some ⟨b9, 2, none⟩)) rfl (hdep ⟨1, .data⟩ (by simp) rfl) rfl
            have hx2 : W.cell? ⟨b9, 2, none⟩ = some (.int .u64 (h : Int)) := blk_cell hO 2
            have hx3 : W.cell? ⟨b9, 3, none⟩ = some (.int .u32 (x : Int)) := blk_cell hO 3
            exact owp_value (.agg #[.int .u64 (h : Int), .int .u32 (x : Int)]) (w' := W) (by clear hdep; go_simp) ⟨by simp [hl], hsz, by rw [opIf_ne (by decide), opIf_ne (by decide)]; exact hT, hO, hF.putK 2 77 _ (by rw [hsz]; decide) rfl rfl⟩
          | 3, ho, hn =>
            simp only [List.getElem?_toArray, List.getElem?_cons_zero, List.getElem?_cons_succ, Option.some.injEq] at ho
            subst ho
            refine ⟨rfl, ?_⟩
            have h75 := hF.slotK (i := 0) (s := 75) (v := .pointer (some ⟨p, 0, none⟩)) rfl (hdep ⟨0, .data⟩ (by simp) rfl) rfl
            have h77 := hF.slotK (i := 2) (s := 77) (v := .agg #[.int .u64 (h : Int), .int .u32 (x : Int)]) rfl (hdep ⟨2, .data⟩ (by simp) rfl) rfl
            rw [getD_no hn] at hT
            have hTs : TwG PG RGA w (fun k => False ∨ k = b9) W p q s (opIf (l.getD 7 false) (fun s => s.dr h x) s) := hT
            refine owp_call (fn := 12) (args := #[.pointer (some ⟨p, 0, none⟩), .agg #[.int .u64 (h : Int), .int .u32 (x : Int)]]) (by clear hdep; go_simp) ?_
            refine (hTs.callL gFoot fun G hG => HP.out.drop hG HS.out h x HH.out HXX.out).mono ?_
            rintro e w' ⟨rfl, ht, hx⟩
            rw [← HEE.out]
            exact ⟨_, rfl, by simp [hl], hsz, by rw [opIf_at hn, opIf_ne (show 7 ≠ 3 by decide)]; exact ht, (hx b9 (.inr rfl)).trans hO, hF.putK 3 78 _ (by rw [hsz]; decide) rfl rfl⟩
          | 4, ho, hn =>
            simp only [List.getElem?_toArray, List.getElem?_cons_zero, List.getElem?_cons_succ, Option.some.injEq] at ho
            subst ho
            refine ⟨rfl, ?_⟩
            have h7 : a.tmps[7]?.getD undef = .pointer (some ⟨q, 0, none⟩) := hF.baseK 7 rfl rfl
            exact owp_value (.pointer (some ⟨q, 0, none⟩)) (w' := W) (by clear hdep; go_simp) ⟨by simp [hl], hsz, by rw [opIf_ne (by decide), opIf_ne (by decide)]; exact hT, hO, hF.putK 4 79 _ (by rw [hsz]; decide) rfl rfl⟩
          | 5, ho, hn =>
            simp only [List.getElem?_toArray, List.getElem?_cons_zero, List.getElem?_cons_succ, Option.some.injEq] at ho
            subst ho
            refine ⟨rfl, ?_⟩
            have h9 : a.tmps[9]?.getD undef = .pointer (some ⟨b9, 0, none⟩) := hF.baseK 9 rfl rfl
            exact owp_value (.pointer (some ⟨b9, 2, none⟩)) (w' := W) (by clear hdep; go_simp) ⟨by simp [hl], hsz, by rw [opIf_ne (by decide), opIf_ne (by decide)]; exact hT, hO, hF.putK 5 80 _ (by rw [hsz]; decide) rfl rfl⟩
          | 6, ho, hn =>
            simp only [List.getElem?_toArray, List.getElem?_cons_zero, List.getElem?_cons_succ, Option.some.injEq] at ho
            subst ho
            refine ⟨rfl, ?_⟩
            have h80 := hF.slotK (i := 5) (s := 80) (v := .pointer (some ⟨b9, 2, none⟩)) rfl (hdep ⟨5, .data⟩ (by simp) rfl) rfl
            have hx2 : W.cell? ⟨b9, 2, none⟩ = some (.int .u64 (h : Int)) := blk_cell hO 2
            have hx3 : W.cell? ⟨b9, 3, none⟩ = some (.int .u32 (x : Int)) := blk_cell hO 3
            exact owp_value (.agg #[.int .u64 (h : Int), .int .u32 (x : Int)]) (w' := W) (by clear hdep; go_simp) ⟨by simp [hl], hsz, by rw [opIf_ne (by decide), opIf_ne (by decide)]; exact hT, hO, hF.putK 6 81 _ (by rw [hsz]; decide) rfl rfl⟩
          | 7, ho, hn =>
            simp only [List.getElem?_toArray, List.getElem?_cons_zero, List.getElem?_cons_succ, Option.some.injEq] at ho
            subst ho
            refine ⟨rfl, ?_⟩
            have h79 := hF.slotK (i := 4) (s := 79) (v := .pointer (some ⟨q, 0, none⟩)) rfl (hdep ⟨4, .data⟩ (by simp) rfl) rfl
            have h81 := hF.slotK (i := 6) (s := 81) (v := .agg #[.int .u64 (h : Int), .int .u32 (x : Int)]) rfl (hdep ⟨6, .data⟩ (by simp) rfl) rfl
            rw [getD_no hn] at hT
            have hTs : TwG PG RGA w (fun k => False ∨ k = b9) W p q (opIf (l.getD 3 false) (fun s => s.dr h x) s) s := hT
            refine owp_call (fn := 13) (args := #[.pointer (some ⟨q, 0, none⟩), .agg #[.int .u64 (h : Int), .int .u32 (x : Int)]]) (by clear hdep; go_simp) ?_
            refine (hTs.callR HP.out.foot fun G hG => gdrop_ext hG HS.out h x HH.out HXX.out).mono ?_
            rintro e w' ⟨rfl, ht, hx⟩
            rw [← HEE.out]
            exact ⟨_, rfl, by simp [hl], hsz, by rw [opIf_at hn, opIf_ne (show 3 ≠ 7 by decide)]; exact ht, (hx b9 (.inr rfl)).trans hO, hF.putK 7 82 _ (by rw [hsz]; decide) rfl rfl⟩
          | 8, ho, hn =>
            simp only [List.getElem?_toArray, List.getElem?_cons_zero, List.getElem?_cons_succ, Option.some.injEq] at ho
            subst ho
            refine ⟨rfl, ?_⟩
            have h78 := hF.slotK (i := 3) (s := 78) (v := .int .i64 EE) rfl (hdep ⟨3, .data⟩ (by simp) rfl) rfl
            have h82 := hF.slotK (i := 7) (s := 82) (v := .int .i64 EE) rfl (hdep ⟨7, .data⟩ (by simp) rfl) rfl
            exact owp_value (.bool true) (w' := W) (by clear hdep; go_simp) ⟨by simp [hl], hsz, by rw [opIf_ne (by decide), opIf_ne (by decide)]; exact hT, hO, hF.putK 8 83 _ (by rw [hsz]; decide) rfl rfl⟩
          | 9, ho, hn =>
            simp only [List.getElem?_toArray, List.getElem?_cons_zero, List.getElem?_cons_succ, Option.some.injEq] at ho
            subst ho
            refine ⟨rfl, ?_⟩
            have h83 := hF.slotK (i := 8) (s := 83) (v := .bool true) rfl (hdep ⟨8, .data⟩ (by simp) rfl) rfl
            exact owp_value (.bool true) (w' := W) (by clear hdep; go_simp) ⟨by simp [hl], hsz, by rw [opIf_ne (by decide), opIf_ne (by decide)]; exact hT, hO, hF.putK 9 10 _ (by rw [hsz]; decide) rfl rfl⟩
          | i5 + 10, ho, hn => simp at ho
        · intro l a W1 hI hall
          obtain ⟨_, _, hT, hO, hF⟩ := hI
          have hall : ∀ i, i < 10 → l.getD i false = true := hall
          have ha := FrU.allQ (K := ([(0, 75), (1, 76), (2, 77), (3, 78), (4, 79), (5, 80), (6, 81), (7, 82), (8, 83), (9, 10)] : List (Nat × Nat))) (V := (fun i => ([.pointer (some ⟨p, 0, none⟩), .pointer (some ⟨b9, 2, none⟩), .agg #[.int .u64 (h : Int), .int .u32 (x : Int)], .int .i64 EE, .pointer (some ⟨q, 0, none⟩), .pointer (some ⟨b9, 2, none⟩), .agg #[.int .u64 (h : Int), .int .u32 (x : Int)], .int .i64 EE, .bool true, .bool true][i]?).getD undef)) (BL := ([(0, 75, .pointer (some ⟨p, 0, none⟩)), (1, 76, .pointer (some ⟨b9, 2, none⟩)), (2, 77, .agg #[.int .u64 (h : Int), .int .u32 (x : Int)]), (3, 78, .int .i64 EE), (4, 79, .pointer (some ⟨q, 0, none⟩)), (5, 80, .pointer (some ⟨b9, 2, none⟩)), (6, 81, .agg #[.int .u64 (h : Int), .int .u32 (x : Int)]), (7, 82, .int .i64 EE), (8, 83, .bool true), (9, 10, .bool true)] : List (Nat × Nat × Value))) hF rfl (n := 10) hall rfl
          subst ha
          rw [hall 3 (by decide), hall 7 (by decide)] at hT
          have HT2 : Hid (TwG PG RGA w (fun k => False ∨ k = b9) W1 p q (s.dr h x) (s.dr h x)) := Lib.hid hT
          have HO2 := Lib.hid hO
          clear hF hall hT hO HT1 HO1
          refine hKc _ _ ?_
          simp only [setAll, List.setIfInBounds_toArray, List.set_cons_succ, List.set_cons_zero]
          have e0 : W1.cell? ⟨b9, 2, none⟩ = some (.int .u64 (h : Int)) := blk_cell HO2.out 2
          have e1 : W1.cell? ⟨b9, 3, none⟩ = some (.int .u32 (x : Int)) := blk_cell HO2.out 3
          go_wp2_with (first
            | (go_at_call 18
               refine (gsame_m HP.out HT2.out HOK.out h x HH.out HXX.out).mono ?_
               rintro e vz ⟨rfl, hb⟩
               have HTz := Lib.hid ((HT2.out.step HP.out.foot gFoot hb).less (Y := fun _ => False) fun _ h => h.elim)
               clear hb))
          go_roundw
          case rel => exact ⟨k + 1, p, q, s.dr h x, by omega, rfl, rfl, by go_num, HOK.out, HTz.out⟩
          case measure => simp [intOf]; omega
      by_cases c3 : κ = 3
      · subst c3
        have e2 : v1.cell? ⟨b9, 1, none⟩ = some (.int .u8 (N : Int)) := blk_cell HO1.out 1
        go_wp2_with fail
        clear e2
        go_loopw [10, 88] (fun vo vi wr => ∃ (j : Nat) (t : Gr), j ≤ N ∧ vi = .int .u8 (j : Int) ∧ vo = .bool true ∧ t.Ok ∧ TwG PG RGA w (fun k => False ∨ k = b9) wr p q t t ∧ wr.heap[b9]? = some (.cells #[.int .i64 3, .int .u8 (N : Int), .int .u64 (h : Int), .int .u32 (x : Int)] 36 (0, 0))) (fun _ vi _ => N - (intOf vi).toNat)
        case atStart => exact ⟨0, s, Nat.zero_le _, rfl, rfl, HS.out, HT1.out, HO1.out⟩
        case round =>
          obtain ⟨j, t, hj, rfl, rfl, ht, hT, hO⟩ := hrel
          have HTO := Lib.hid ht
          have HTT := Lib.hid hT
          have HOO := Lib.hid hO
          clear ht hT hO HT1 HO1
          by_cases hjn : j < N
          · have j1 : (j : Int) < (N : Int) := by omega
            have hN9 := HNB.out
            have zj : IntKind.u8.wrap ((j : Int) + 1) = (j : Int) + 1 := by rw [IntKind.wrap_u8]; omega
            have HOK := Lib.hid (Gr.ok_st HTO.out)
            obtain ⟨mv, hmv⟩ : ∃ m, m = t.st.mv := ⟨_, rfl⟩
            have HM := Lib.hid hmv
            clear hmv
            go_wp2_with (first
              | (go_at_call 14
                 refine (HTT.out.callL gFoot fun G hG => HP.out.step hG HTO.out).mono ?_
                 rintro e v2 ⟨rfl, ht, hx⟩
                 rw [← HM.out]
                 have HT2 := Lib.hid ht
                 have HO2 : Hid (v2.heap[b9]? = some (.cells #[.int .i64 3, .int .u8 (N : Int), .int .u64 (h : Int), .int .u32 (x : Int)] 36 (0, 0))) := Lib.hid ((hx b9 (.inr rfl)).trans HOO.out)
                 clear ht hx)
              | (go_at_call 15
                 refine (HT2.out.callR HP.out.foot fun G hG => gstep_ext hG HTO.out).mono ?_
                 rintro e v3 ⟨rfl, ht, hx⟩
                 rw [← HM.out]
                 have HT3 := Lib.hid ht
                 have HO3 : Hid (v3.heap[b9]? = some (.cells #[.int .i64 3, .int .u8 (N : Int), .int .u64 (h : Int), .int .u32 (x : Int)] 36 (0, 0))) := Lib.hid ((hx b9 (.inr rfl)).trans HO2.out)
                 clear ht hx))
            go_roundw
            case rel => exact ⟨j + 1, t.st, by omega, by go_num, by cases mv <;> rfl, HOK.out, HT3.out, HO3.out⟩
            case measure => simp [intOf]; omega
          · have j1 : ¬ (j : Int) < (N : Int) := by omega
            go_upto_region 32 with fail
            clear hjn j1 hj
            have e0 : wr.cell? ⟨b9, 2, none⟩ = some (.int .u64 (h : Int)) := blk_cell HOO.out 2
            have e1 : wr.cell? ⟨b9, 3, none⟩ = some (.int .u32 (x : Int)) := blk_cell HOO.out 3
            go_wp2_with (first
              | (go_at_call 18
                 refine (gsame_m HP.out HTT.out HTO.out h x HH.out HXX.out).mono ?_
                 rintro e vz ⟨rfl, hb⟩
                 have HTz := Lib.hid ((HTT.out.step HP.out.foot gFoot hb).less (Y := fun _ => False) fun _ h => h.elim)
                 clear hb))
            go_roundw
            case rel => exact ⟨k + 1, p, q, t, by omega, rfl, rfl, by go_num, HTO.out, HTz.out⟩
            case measure => simp [intOf]; omega
      by_cases c4 : κ = 4
      · subst c4
        have HOK := HS
        go_upto_region 25 with (first
          | (go_at_call 16
             refine (copy_three HP.out HT1.out HS.out).mono ?_
             rintro e v2 ⟨b, rfl, Y, hXY, hst, hback, hsz⟩
             have HS2 := Lib.hid hst
             have HY := Lib.hid hXY
             have HBK := Lib.hid hback
             have HO2 : Hid (v2.heap[b9]? = some (.cells #[.int .i64 4, .int .u8 (N : Int), .int .u64 (h : Int), .int .u32 (x : Int)] 36 (0, 0))) := Lib.hid ((hsz b9 (.inr rfl)).trans HO1.out)
             clear hst hXY hback hsz))
        clear HT1 HO1
        have e0 : v2.cell? ⟨b9, 2, none⟩ = some (.int .u64 (h : Int)) := blk_cell HO2.out 2
        have e1 : v2.cell? ⟨b9, 3, none⟩ = some (.int .u32 (x : Int)) := blk_cell HO2.out 3
        go_upto_region 26 with (first
          | (go_at_call 10
             refine (callS HS2.out fun G hG => HP.out.put hG HS.out h x HH.out HXX.out).mono ?_
             rintro e v3 ⟨rfl, ht, hx, hz⟩
             have HS3 := Lib.hid ht
             have HX3 := Lib.hid hx
             have HZ3 := Lib.hid hz
             have HO3 : Hid (v3.heap[b9]? = some (.cells #[.int .i64 4, .int .u8 (N : Int), .int .u64 (h : Int), .int .u32 (x : Int)] 36 (0, 0))) := Lib.hid ((hx b9 (HY.out b9 (.inr rfl))).trans HO2.out)
             clear ht hx hz))
        clear e0 e1 HO2 HS2
        obtain ⟨EE, hEE⟩ : ∃ E, E = s.ptE h := ⟨_, rfl⟩
        try rw [← hEE]
        clear hEE
        go_upto_region 27 with (first
          | (go_at_call 14
             refine (callS HS3.out fun G hG => HP.out.step hG (Gr.ok_pt HS.out HH.out HXX.out)).mono ?_
             rintro e v4 ⟨rfl, ht, hx, hz⟩
             have HT4 := Lib.hid (HBK.out v4 (fun k hk => (hx k hk).trans (HX3.out k hk)) ht.below (Nat.le_trans HZ3.out hz))
             have HO4 : Hid (v4.heap[b9]? = some (.cells #[.int .i64 4, .int .u8 (N : Int), .int .u64 (h : Int), .int .u32 (x : Int)] 36 (0, 0))) := Lib.hid ((hx b9 (HY.out b9 (.inr rfl))).trans HO3.out)
             clear ht hx hz))
        clear HS3 HX3 HZ3 HBK HY HO3
        go_upto_region 32 with (first
          | (go_at_call 17
             refine (rgcopy_m HT4.out HP.out.foot HS.out).mono ?_
             rintro e v5 ⟨q2, rfl, ht, hx⟩
             have HT5 := Lib.hid ht
             have HO5 : Hid (v5.heap[b9]? = some (.cells #[.int .i64 4, .int .u8 (N : Int), .int .u64 (h : Int), .int .u32 (x : Int)] 36 (0, 0))) := Lib.hid ((hx b9 (.inr rfl)).trans HO4.out)
             clear ht hx))
        clear HT4 HO4
        have e0 : v5.cell? ⟨b9, 2, none⟩ = some (.int .u64 (h : Int)) := blk_cell HO5.out 2
        have e1 : v5.cell? ⟨b9, 3, none⟩ = some (.int .u32 (x : Int)) := blk_cell HO5.out 3
        go_wp2_with (first
          | (go_at_call 18
             refine (gsame_m HP.out HT5.out HOK.out h x HH.out HXX.out).mono ?_
             rintro e vz ⟨rfl, hb⟩
             have HTz := Lib.hid ((HT5.out.step HP.out.foot gFoot hb).less (Y := fun _ => False) fun _ h => h.elim)
             clear hb))
        go_roundw
        case rel => exact ⟨k + 1, b, q2, s, by omega, rfl, rfl, by go_num, HOK.out, HTz.out⟩
        case measure => simp [intOf]; omega
      by_cases c5 : κ = 5
      · subst c5
        have HOK := HS
        go_upto_region 30 with (first
          | (go_at_call 16
             refine (copy_third HP.out HT1.out HS.out).mono ?_
             rintro e v2 ⟨b, rfl, Y, hXY, hst, hback, hsz⟩
             have HS2 := Lib.hid hst
             have HY := Lib.hid hXY
             have HBK := Lib.hid hback
             have HO2 : Hid (v2.heap[b9]? = some (.cells #[.int .i64 5, .int .u8 (N : Int), .int .u64 (h : Int), .int .u32 (x : Int)] 36 (0, 0))) := Lib.hid ((hsz b9 (.inr rfl)).trans HO1.out)
             clear hst hXY hback hsz))
        clear HT1 HO1
        have e0 : v2.cell? ⟨b9, 2, none⟩ = some (.int .u64 (h : Int)) := blk_cell HO2.out 2
        have e1 : v2.cell? ⟨b9, 3, none⟩ = some (.int .u32 (x : Int)) := blk_cell HO2.out 3
        go_upto_region 31 with (first
          | (go_at_call 12
             refine (callS HS2.out fun G hG => HP.out.drop hG HS.out h x HH.out HXX.out).mono ?_
             rintro e v3 ⟨rfl, ht, hx, hz⟩
             have HS3 := Lib.hid ht
             have HX3 := Lib.hid hx
             have HZ3 := Lib.hid hz
             have HO3 : Hid (v3.heap[b9]? = some (.cells #[.int .i64 5, .int .u8 (N : Int), .int .u64 (h : Int), .int .u32 (x : Int)] 36 (0, 0))) := Lib.hid ((hx b9 (HY.out b9 (.inr rfl))).trans HO2.out)
             clear ht hx hz))
        clear e0 e1 HO2 HS2
        go_upto_region 32 with (first
          | (go_at_call 14
             refine (callS HS3.out fun G hG => HP.out.step hG (Gr.ok_dr HS.out h x)).mono ?_
             rintro e v4 ⟨rfl, ht, hx, hz⟩
             have HT4 := Lib.hid (HBK.out v4 (fun k hk => (hx k hk).trans (HX3.out k hk)) ht.below (Nat.le_trans HZ3.out hz))
             have HO4 : Hid (v4.heap[b9]? = some (.cells #[.int .i64 5, .int .u8 (N : Int), .int .u64 (h : Int), .int .u32 (x : Int)] 36 (0, 0))) := Lib.hid ((hx b9 (HY.out b9 (.inr rfl))).trans HO3.out)
             clear ht hx hz))
        clear HS3 HX3 HZ3 HBK HY HO3
        have e0 : v4.cell? ⟨b9, 2, none⟩ = some (.int .u64 (h : Int)) := blk_cell HO4.out 2
        have e1 : v4.cell? ⟨b9, 3, none⟩ = some (.int .u32 (x : Int)) := blk_cell HO4.out 3
        go_wp2_with (first
          | (go_at_call 18
             refine (gsame_m HP.out HT4.out HOK.out h x HH.out HXX.out).mono ?_
             rintro e vz ⟨rfl, hb⟩
             have HTz := Lib.hid ((HT4.out.step HP.out.foot gFoot hb).less (Y := fun _ => False) fun _ h => h.elim)
             clear hb))
        go_roundw
        case rel => exact ⟨k + 1, p, q, s, by omega, rfl, rfl, by go_num, HOK.out, HTz.out⟩
        case measure => simp [intOf]; omega
      have c1 : (κ == 1) = false := by simpa using c1
      have c2 : (κ == 2) = false := by simpa using c2
      have c3 : (κ == 3) = false := by simpa using c3
      have c4 : (κ == 4) = false := by simpa using c4
      have c5 : (κ == 5) = false := by simpa using c5
      have HOK := HS
      go_upto_region 32 with fail
      have e0 : v1.cell? ⟨b9, 2, none⟩ = some (.int .u64 (h : Int)) := blk_cell HO1.out 2
      have e1 : v1.cell? ⟨b9, 3, none⟩ = some (.int .u32 (x : Int)) := blk_cell HO1.out 3
      go_wp2_with (first
        | (go_at_call 18
           refine (gsame_m HP.out HT1.out HOK.out h x HH.out HXX.out).mono ?_
           rintro e vz ⟨rfl, hb⟩
           have HTz := Lib.hid ((HT1.out.step HP.out.foot gFoot hb).less (Y := fun _ => False) fun _ h => h.elim)
           clear hb))
      go_roundw
      case rel => exact ⟨k + 1, p, q, s, by omega, rfl, rfl, by go_num, HOK.out, HTz.out⟩
      case measure => simp [intOf]; omega
    · obtain rfl : m = k := by omega
      have HK := Lib.hid (gknown_any HP.out wr)
      go_wp2_with (first
        | (go_at_call 6
           refine HK.out.mono ?_
           rintro e uz ⟨rfl, hb⟩))
      go_ret
      exact ⟨rfl, HTr.out.below.trans (hb.mono HTr.out.below.size)⟩
end
end Go.Proofs.Ythjghofjdcepmaa
