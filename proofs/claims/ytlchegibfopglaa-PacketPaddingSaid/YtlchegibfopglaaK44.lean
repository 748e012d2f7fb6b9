import Derived.Test.YtlchegibfopglaaK39
import Derived.Test.YtlchegibfopglaaK40
import Derived.Test.YtlchegibfopglaaK43
import Derived.Test.YtlchegibfopglaaK19
import Derived.Test.YtlchegibfopglaaK20
/- Layer 7, the program: Read. -/
namespace Go.Proofs.Ytlchegibfopglaa
set_option maxRecDepth 100000
open Go.RowKit
theorem slice_full (g n c k : Nat) (h0 : 0 < k) (h1 : k ≤ n) (h2 : n ≤ c) (_h3 : c ≤ 9223372036854775807) (W : World) : (Instr.sliceAt 22 (.slice (some ⟨g, 0, none⟩) n c) none (some (.int .i64 (k : Int))) (some (.int .i64 (k : Int)))).run Try.prog W = .ok (.slice (some ⟨g, 0, none⟩) k k) W := by
  have i1 : (0 : Int) ≤ (k : Int) := by omega
  have i2 : (k : Int) ≤ (c : Int) := by omega
  have i3 : ¬ k = 0 := by omega
  go_simp
theorem Mem.add {w W : World} {L : List (Nat × Obj)} (h : Mem w W L) {q : Nat} {o : Obj} (hq : W.heap[q]? = some o) (hlt : ∀ p ∈ L, p.1 < q) (hw : w.heap.size ≤ q) : Mem w W (L ++ [(q, o)]) := by
  refine ⟨fun p hp => ?_, fun p hp => ?_, ?_, h.below⟩
  · rcases List.mem_append.1 hp with r | r
    · exact h.all p r
    · obtain rfl := List.mem_singleton.1 r
      exact hq
  · rcases List.mem_append.1 hp with r | r
    · exact h.lo p r
    · obtain rfl := List.mem_singleton.1 r
      exact hw
  · refine List.pairwise_append.2 ⟨h.inc, List.pairwise_singleton .., fun a ha b hb => ?_⟩
    obtain rfl := List.mem_singleton.1 hb
    exact hlt a ha
theorem PS.add {w W : World} {L : List (Nat × Obj)} {I : Option Addr} {ni ci : Nat} {gi : Nat → Int} {R : Option Addr} {nr cr : Nat} {gr : Nat → Int} (h : PS w W L I ni ci gi R nr cr gr) {q : Nat} {o : Obj} (hq : W.heap[q]? = some o) (hlt : ∀ p ∈ L, p.1 < q) (hw : w.heap.size ≤ q) : PS w W (L ++ [(q, o)]) I ni ci gi R nr cr gr := ⟨h.mem.add hq hlt hw, h.oi, h.or_⟩
theorem pkT_tup (v : Bool) (P : Int) (s d r : Nat → Int) (n : Nat) : ∃ v' pr ss dd sp dp, pkT v P s d r n = tupc v' pr ss dd sp dp := by
  unfold pkT
  split
  · exact ⟨_, _, _, _, _, _, rfl⟩
  · exact wT_tup v _ _
/-- A map of protocols; a new protocol. -/
def mapF : Fact := fun v W => ∃ b es clock, v = .map (some b) ∧ W.heap[b]? = some (.map es clock) ∧ Prots es
theorem stb_map : Stb mapF := fun _ _ _ ⟨b, es, clock, h, hq, hp⟩ hb => ⟨b, es, clock, h, (hb.block _ (lt_heap hq)).trans hq, hp⟩
/-- What is found at a key. -/
theorem prot_any (v : Bool) (P : Int) : (protF v P = none ∧ P ≠ 6 ∧ P ≠ 17 ∧ icP v P = false) ∨ ∃ F, protF v P = some F ∧ (∀ args W, (callFunc F args).run Try.prog W = .ok (.enter F args) W) ∧ ∀ (S D : Nat → Int), Byt S → Byt D → ∀ (R : Option Addr) (NR rc : Nat) (z : Int) (RF : Nat → Int), Byt RF → NR ≤ 140737488355 → NR ≤ rc → rc ≤ 9223372036854775807 → ∀ W, Rd W W.heap.size R NR RF →
    Calls Try.prog F #[.agg (carc v P S D (.slice R NR rc) z)] W (PrO v P S D RF NR W) := by
  by_cases h6 : P = 6
  · subst h6
    exact .inr ⟨26, by cases v <;> rfl, fun _ _ => by kernel_rfl, fun S D hS hD R NR rc z RF hRF hn h1 h2 W hr => prT_any v S D hS hD R NR rc z RF hRF hn h1 h2 W hr⟩
  by_cases h17 : P = 17
  · subst h17
    exact .inr ⟨27, by cases v <;> rfl, fun _ _ => by kernel_rfl, fun S D hS hD R NR rc z RF hRF hn h1 h2 W hr => prU_any v S D hS hD R NR rc z RF hRF hn h1 h2 W hr⟩
  by_cases hi : icP v P = true
  · refine .inr ⟨28, ?_, fun _ _ => by kernel_rfl, fun S D hS hD R NR rc z RF hRF hn h1 h2 W hr => prI_any v P S D hS hD R NR rc z RF hRF hn h1 h2 h6 h17 hi W hr⟩
    unfold icP at hi
    cases v
    · rw [if_neg (by decide)] at hi
      obtain rfl := of_decide_eq_true hi
      rfl
    · rw [if_pos rfl] at hi
      obtain rfl := of_decide_eq_true hi
      rfl
  · refine .inl ⟨?_, h6, h17, by simpa using hi⟩
    unfold icP at hi
    have k6 : ((6 : Int) == P) = false := by simp; exact fun q => h6 q.symm
    have k17 : ((17 : Int) == P) = false := by simp; exact fun q => h17 q.symm
    cases v
    · rw [if_neg (by decide)] at hi
      have k1 : ((1 : Int) == P) = false := by simp at hi ⊢; exact fun q => hi q.symm
      simp [protF, protL, List.find?, k6, k17, k1]
    · rw [if_pos rfl] at hi
      have k1 : ((58 : Int) == P) = false := by simp at hi ⊢; exact fun q => hi q.symm
      simp [protF, protL, List.find?, k6, k17, k1]
/-- What Read tells, the program's or the document's: an error, or a packet whose inner bytes are its own. -/
def PkR (f : Nat → Int) (n : Nat) (w : World) (e : Ending) (w' : World) : Prop :=
  (pkE f n ≠ 0 ∧ e = .returned (.tuple #[.agg pkz, .int .i64 (pkE f n)]) ∧ Below w.heap.size w w') ∨
  (pkE f n = 0 ∧ ∃ g1 ic N c, e = .returned (.tuple #[.agg (pkA (eth f (fun k => f (6 + k)) (w2 f 12)) (pkT (pkV f) (otP (pkV f) (pkG f)) (otS (pkV f) (pkG f)) (otD (pkV f) (pkG f)) (otF (pkV f) (pkG f)) (otR (pkV f) (pkG f))) (pkL (otP (pkV f) (pkG f)) (otF (pkV f) (pkG f))) (pkR (otP (pkV f) (pkG f))) (.slice (some ⟨g1, 0, none⟩) (otI (pkV f) (pkG f)) ic)), .int .i64 0]) ∧
    otI (pkV f) (pkG f) ≤ ic ∧ ic ≤ 9223372036854775807 ∧ otI (pkV f) (pkG f) ≤ N ∧ Own w' w.heap.size 5 (some ⟨g1, 0, none⟩) N c (pkG f) ∧ Below w.heap.size w w')
set_option maxHeartbeats 8000000 in
theorem pk_any (A : Option Addr) (n c : Nat) (f : Nat → Int) (hf : Byt f) (hn : n ≤ 140737488355) (hcap : n ≤ c) (hc9 : c ≤ 9223372036854775807) (w : World) (hr : Rd w w.heap.size A n f) :
    Calls Try.prog 6 #[.slice A n c] w (PkR f n w) := by
  have HR := Lib.hid hr
  have HF := Lib.hid hf
  clear hr hf
  have HM1 : Hid (Mem w (w.alloc (.cells pkz 32)) [(w.heap.size, .cells pkz 32 (0, 0))]) := Lib.hid ((Mem.nil w).alloc (.cells pkz 32))
  go_enter Try.func6, Try.ntmps6
  go_upto_region 1 with fail
  change Code.wp _ _ _ _ (w.alloc (.cells pkz 32))
  generalize w.alloc (.cells pkz 32) = u1 at *
  by_cases cL : 1600 < n
  · have hne : (3 : Int) ≠ 0 := by decide
    go_wp2_with fail
    go_at_call 14
    refine (eread_long A n c cL (by omega) u1).mono ?_
    rintro e u2 ⟨rfl, hb2⟩
    have HM2 := Lib.hid (HM1.out.step hb2)
    clear hb2 HM1
    have HN : Hid ((u2.alloc (.cells (eth (fun _ => 0) (fun _ => 0) 0) 30)).heap[u2.heap.size]? = some (.cells (eth (fun _ => 0) (fun _ => 0) 0) 30 (0, 0))) := heap_alloc_new u2 _
    go_upto_if 18 with (first
      | (refine wpList_store_row rfl 30 (.tmp 4) (.tmp 14) rfl u2.heap.size (eth (fun _ => 0) (fun _ => 0) 0) rfl rfl 30 (eth (fun _ => 0) (fun _ => 0) 0) HN.out (by kernel_rfl) rfl (eth_one ..) ?_))
    change Code.wp _ _ _ _ ((u2.alloc (.cells (eth (fun _ => 0) (fun _ => 0) 0) 30)).setRow u2.heap.size (eth (fun _ => 0) (fun _ => 0) 0))
    obtain ⟨q4, hq⟩ : ∃ q, q = u2.heap.size := ⟨_, rfl⟩
    have HM3 : Hid (Mem w ((u2.alloc (.cells (eth (fun _ => 0) (fun _ => 0) 0) 30)).setRow q4 (eth (fun _ => 0) (fun _ => 0) 0)) [(w.heap.size, .cells pkz 32 (0, 0)), (q4, .cells (eth (fun _ => 0) (fun _ => 0) 0) 30 (0, 0))]) := Lib.hid (HM2.out.newrow (eth (fun _ => 0) (fun _ => 0) 0) (eth (fun _ => 0) (fun _ => 0) 0) 30 q4 hq)
    rw [← hq]
    clear hq HN HM2
    generalize (u2.alloc (.cells (eth (fun _ => 0) (fun _ => 0) 0) 30)).setRow q4 (eth (fun _ => 0) (fun _ => 0) 0) = u3 at *
    have hpk : pkE f n = 3 := pkE_0 cL
    go_wp2_with (first
      | (refine wpList_store_row rfl 32 (.tmp 2) (.tmp 19) rfl w.heap.size pkz rfl rfl 32 pkz (HM3.out.get 0 rfl) (by kernel_rfl) rfl pkz_one ?_))
    refine bodyPost_ret (v := .tuple #[.agg pkz, .int .i64 3]) (results_row1 Try.results6 _ _ w.heap.size 32 pkz (0, 0) _ rfl (setRow_heap _ w.heap.size _ pkz _ _ (HM3.out.get 0 rfl)) Try.underlying32 rfl (by kernel_rfl)) rfl ?_
    refine .inl ⟨?_, ?_, below_setRow HM3.out.below (Nat.le_refl _) _⟩
    · rw [hpk]
      first | exact hne | decide
    · rw [hpk] <;> rfl
  by_cases cS : n < 14
  · have hne : (4 : Int) ≠ 0 := by decide
    go_wp2_with fail
    go_at_call 14
    refine (eread_short A n c cS u1).mono ?_
    rintro e u2 ⟨rfl, hb2⟩
    have HM2 := Lib.hid (HM1.out.step hb2)
    clear hb2 HM1
    have HN : Hid ((u2.alloc (.cells (eth (fun _ => 0) (fun _ => 0) 0) 30)).heap[u2.heap.size]? = some (.cells (eth (fun _ => 0) (fun _ => 0) 0) 30 (0, 0))) := heap_alloc_new u2 _
    go_upto_if 18 with (first
      | (refine wpList_store_row rfl 30 (.tmp 4) (.tmp 14) rfl u2.heap.size (eth (fun _ => 0) (fun _ => 0) 0) rfl rfl 30 (eth (fun _ => 0) (fun _ => 0) 0) HN.out (by kernel_rfl) rfl (eth_one ..) ?_))
    change Code.wp _ _ _ _ ((u2.alloc (.cells (eth (fun _ => 0) (fun _ => 0) 0) 30)).setRow u2.heap.size (eth (fun _ => 0) (fun _ => 0) 0))
    obtain ⟨q4, hq⟩ : ∃ q, q = u2.heap.size := ⟨_, rfl⟩
    have HM3 : Hid (Mem w ((u2.alloc (.cells (eth (fun _ => 0) (fun _ => 0) 0) 30)).setRow q4 (eth (fun _ => 0) (fun _ => 0) 0)) [(w.heap.size, .cells pkz 32 (0, 0)), (q4, .cells (eth (fun _ => 0) (fun _ => 0) 0) 30 (0, 0))]) := Lib.hid (HM2.out.newrow (eth (fun _ => 0) (fun _ => 0) 0) (eth (fun _ => 0) (fun _ => 0) 0) 30 q4 hq)
    rw [← hq]
    clear hq HN HM2
    generalize (u2.alloc (.cells (eth (fun _ => 0) (fun _ => 0) 0) 30)).setRow q4 (eth (fun _ => 0) (fun _ => 0) 0) = u3 at *
    have hpk : pkE f n = 4 := pkE_1 cL cS
    go_wp2_with (first
      | (refine wpList_store_row rfl 32 (.tmp 2) (.tmp 19) rfl w.heap.size pkz rfl rfl 32 pkz (HM3.out.get 0 rfl) (by kernel_rfl) rfl pkz_one ?_))
    refine bodyPost_ret (v := .tuple #[.agg pkz, .int .i64 4]) (results_row1 Try.results6 _ _ w.heap.size 32 pkz (0, 0) _ rfl (setRow_heap _ w.heap.size _ pkz _ _ (HM3.out.get 0 rfl)) Try.underlying32 rfl (by kernel_rfl)) rfl ?_
    refine .inl ⟨?_, ?_, below_setRow HM3.out.below (Nat.le_refl _) _⟩
    · rw [hpk]
      first | exact hne | decide
    · rw [hpk] <;> rfl
  rcases HR.out with h0 | ⟨b, off, rfl, hbb, hcell⟩
  · omega
  have HRG := Lib.hid (eread_good b off n c f HF.out (by omega) (by omega) hcap hc9 u1 (Nat.lt_of_lt_of_le hbb HM1.out.below.size) (fun k hk => HM1.out.cell hbb (hcell k hk)))
  clear hcell
  obtain ⟨TY, hTY⟩ : ∃ TY, TY = w2 f 12 := ⟨_, rfl⟩
  have hty : f 12 * 256 + f 13 = TY := hTY.symm
  have HTY := Lib.hid hTY
  clear hTY
  go_wp2_with fail
  go_at_call 14
  refine HRG.out.mono ?_
  rintro e u2 ⟨A1, c1, rfl, ho1, hb2⟩
  rw [hty]
  have HM2 := Lib.hid (HM1.out.step hb2)
  have HO2 := Lib.hid (ho1.le HM1.out.below.size)
  clear hb2 HM1 ho1 HRG hty
  have HN : Hid ((u2.alloc (.cells (eth (fun _ => 0) (fun _ => 0) 0) 30)).heap[u2.heap.size]? = some (.cells (eth (fun _ => 0) (fun _ => 0) 0) 30 (0, 0))) := heap_alloc_new u2 _
  go_upto_region 4 with (first
    | (refine wpList_store_row rfl 30 (.tmp 4) (.tmp 14) rfl u2.heap.size (eth f (fun k => f (6 + k)) TY) rfl rfl 30 (eth (fun _ => 0) (fun _ => 0) 0) HN.out (by kernel_rfl) rfl (eth_one ..) ?_))
  change Code.wp _ _ _ _ ((u2.alloc (.cells (eth (fun _ => 0) (fun _ => 0) 0) 30)).setRow u2.heap.size (eth f (fun k => f (6 + k)) TY))
  obtain ⟨q4, hq⟩ : ∃ q, q = u2.heap.size := ⟨_, rfl⟩
  have HM3 : Hid (Mem w ((u2.alloc (.cells (eth (fun _ => 0) (fun _ => 0) 0) 30)).setRow q4 (eth f (fun k => f (6 + k)) TY)) [(w.heap.size, .cells pkz 32 (0, 0)), (q4, .cells (eth f (fun k => f (6 + k)) TY) 30 (0, 0))]) := Lib.hid (HM2.out.newrow (eth (fun _ => 0) (fun _ => 0) 0) (eth f (fun k => f (6 + k)) TY) 30 q4 hq)
  have B23 : Hid (Below u2.heap.size u2 ((u2.alloc (.cells (eth (fun _ => 0) (fun _ => 0) 0) 30)).setRow q4 (eth f (fun k => f (6 + k)) TY))) := Lib.hid (by rw [hq]; exact below_setRow (below_alloc u2 _) (Nat.le_refl _) _)
  have HO3 := Lib.hid (HO2.out.below B23.out)
  rw [← hq]
  clear hq HN HM2 HO2 B23
  generalize (u2.alloc (.cells (eth (fun _ => 0) (fun _ => 0) 0) 30)).setRow q4 (eth f (fun k => f (6 + k)) TY) = u3 at *
  have x12 : u3.cell? ⟨q4, 12, none⟩ = some (.int .u16 TY) := blk_cell (HM3.out.get 1 rfl) 12
  have HOU := Lib.hid (eours_any TY u3)
  obtain ⟨ob, hob⟩ : ∃ ob, ob = decide (TY = 2048 ∨ TY = 34525) := ⟨_, rfl⟩
  rw [← hob] at HOU
  have HOB := Lib.hid hob
  clear hob
  go_upto_if 24 with (first
    | (go_at_call 15; refine HOU.out.mono ?_; rintro e w' ⟨rfl, rfl⟩))
  clear HOU
  cases ob
  · have hne : (10 : Int) ≠ 0 := by decide
    have hpk : pkE f n = 10 := pkE_2 cL cS (by rw [← HTY.out]; exact of_decide_eq_false HOB.out.symm)
    clear x12
    go_wp2_with (first
      | (refine wpList_store_row rfl 32 (.tmp 2) (.tmp 25) rfl w.heap.size pkz rfl rfl 32 pkz (HM3.out.get 0 rfl) (by kernel_rfl) rfl pkz_one ?_))
    refine bodyPost_ret (v := .tuple #[.agg pkz, .int .i64 10]) (results_row1 Try.results6 _ _ w.heap.size 32 pkz (0, 0) _ rfl (setRow_heap _ w.heap.size _ pkz _ _ (HM3.out.get 0 rfl)) Try.underlying32 rfl (by kernel_rfl)) rfl ?_
    refine .inl ⟨?_, ?_, below_setRow HM3.out.below (Nat.le_refl _) _⟩
    · rw [hpk]
      first | exact hne | decide
    · rw [hpk] <;> rfl
  have hours : w2 f 12 = 2048 ∨ w2 f 12 = 34525 := by rw [← HTY.out]; exact of_decide_eq_true HOB.out.symm
  have HOR := Lib.hid hours
  obtain ⟨v, hv⟩ : ∃ v, v = pkV f := ⟨_, rfl⟩
  have hv' : (TY == 34525) = v := by
    rw [hv]
    unfold pkV
    rw [← HTY.out]
    by_cases q : TY = 34525 <;> simp [q]
  have HV := Lib.hid hv
  have hGB : Byt (pkG f) := fun k => HF.out _
  have HGB := Lib.hid hGB
  have HOT := Lib.hid (carrier_any v A1 (n - 14) c1 (pkG f) hGB (by omega) HO3.out.cap HO3.out.cap_le u3 HO3.out.rd)
  clear hours hv hGB
  go_wp2_with fail
  go_at_call 16
  refine HOT.out.mono ?_
  rintro e u4 hq
  clear HOT x12 hv'
  rcases hq with ⟨hE, rfl, hb4⟩ | ⟨hE, R, rc, rfl, hR, hb4⟩
  · obtain ⟨E1, hE1⟩ : ∃ E, E = otE v (pkG f) (n - 14) := ⟨_, rfl⟩
    rw [← hE1] at hE ⊢
    have hne : E1 ≠ 0 := hE
    have hne' : (E1 != 0) = true := by simpa using hE
    have hpk : pkE f n = E1 := by rw [hE1, HV.out]; exact pkE_3 cL cS HOR.out (by rw [← HV.out, ← hE1]; exact hne)
    have HPKE := Lib.hid hpk
    clear hE1 hpk hE
    have HM4 := Lib.hid (HM3.out.step hb4)
    clear hb4 HM3 HO3
    have HN : Hid ((u4.alloc (.cells carz 48)).heap[u4.heap.size]? = some (.cells carz 48 (0, 0))) := heap_alloc_new u4 _
    go_upto_if 35 with (first
      | (refine wpList_store_row rfl 48 (.tmp 7) (.tmp 32) rfl u4.heap.size carz rfl rfl 48 carz HN.out (by kernel_rfl) rfl (car_one ..) ?_))
    change Code.wp _ _ _ _ ((u4.alloc (.cells carz 48)).setRow u4.heap.size carz)
    obtain ⟨q7, hq⟩ : ∃ q, q = u4.heap.size := ⟨_, rfl⟩
    have HM5 : Hid (Mem w ((u4.alloc (.cells carz 48)).setRow q7 carz) [(w.heap.size, .cells pkz 32 (0, 0)), (q4, .cells (eth f (fun k => f (6 + k)) TY) 30 (0, 0)), (q7, .cells carz 48 (0, 0))]) := Lib.hid (HM4.out.newrow carz carz 48 q7 hq)
    rw [← hq]
    clear hq HN HM4
    generalize (u4.alloc (.cells carz 48)).setRow q7 carz = u5 at *
    have hpk := HPKE.out
    go_wp2_with (first
      | (refine wpList_store_row rfl 32 (.tmp 2) (.tmp 36) rfl w.heap.size pkz rfl rfl 32 pkz (HM5.out.get 0 rfl) (by kernel_rfl) rfl pkz_one ?_))
    refine bodyPost_ret (v := .tuple #[.agg pkz, .int .i64 E1]) (results_row1 Try.results6 _ _ w.heap.size 32 pkz (0, 0) _ rfl (setRow_heap _ w.heap.size _ pkz _ _ (HM5.out.get 0 rfl)) Try.underlying32 rfl (by kernel_rfl)) rfl ?_
    refine .inl ⟨?_, ?_, below_setRow HM5.out.below (Nat.le_refl _) _⟩
    · rw [hpk]
      first | exact hne | decide
    · rw [hpk] <;> rfl
  have HOK := Lib.hid (ot_ok HGB.out hE)
  have hpk4 : pkE f n = prE v (otP v (pkG f)) (otS v (pkG f)) (otD v (pkG f)) (otF v (pkG f)) (otR v (pkG f)) := by
    have hE' := hE
    rw [HV.out] at hE' ⊢
    exact pkE_4 cL cS HOR.out hE'
  obtain ⟨P, hP⟩ : ∃ P, P = otP v (pkG f) := ⟨_, rfl⟩
  obtain ⟨S, hS⟩ : ∃ S, S = otS v (pkG f) := ⟨_, rfl⟩
  obtain ⟨D, hD⟩ : ∃ D, D = otD v (pkG f) := ⟨_, rfl⟩
  obtain ⟨RF, hRF⟩ : ∃ RF, RF = otF v (pkG f) := ⟨_, rfl⟩
  obtain ⟨NR, hNR⟩ : ∃ NR, NR = otR v (pkG f) := ⟨_, rfl⟩
  obtain ⟨NI, hNI⟩ : ∃ NI, NI = otI v (pkG f) := ⟨_, rfl⟩
  have HSB : Hid (Byt S) := Lib.hid (by rw [hS]; exact otS_byt v HGB.out)
  have HDB : Hid (Byt D) := Lib.hid (by rw [hD]; exact otD_byt v HGB.out)
  have HRB : Hid (Byt RF) := Lib.hid (by rw [hRF]; exact fun k => HGB.out _)
  have hNRb : NR ≤ n := by have := HOK.out; rw [hNR]; omega
  have hNI0 : 0 < NI := by have := HOK.out; rw [hNI]; omega
  have hNIm : NI ≤ n - 14 := by have := HOK.out; rw [hNI]; omega
  have hc1 := HO3.out.cap
  have hc19 := HO3.out.cap_le
  obtain ⟨g1, rfl, _, _, _, _⟩ := HO3.out.lies (show 0 < n - 14 by omega)
  rw [← hP, ← hS, ← hD, ← hRF, ← hNR] at hpk4
  rw [← hNR, ← hRF] at hR
  rw [← hP, ← hS, ← hD, ← hNI, ← hNR]
  have HPK := Lib.hid hpk4
  have HP := Lib.hid hP
  have HS := Lib.hid hS
  have HD := Lib.hid hD
  have HRF := Lib.hid hRF
  have HNR := Lib.hid hNR
  have HNI := Lib.hid hNI
  have hcr := hR.cap
  have hcr9 := hR.cap_le
  have hw3 : w.heap.size ≤ u3.heap.size := HM3.out.below.size
  have HP4 : Hid (PS w u4 [(w.heap.size, .cells pkz 32 (0, 0)), (q4, .cells (eth f (fun k => f (6 + k)) TY) 30 (0, 0))] (some ⟨g1, 0, none⟩) (n - 14) c1 (pkG f) R NR rc RF) := Lib.hid ⟨HM3.out.step hb4, HO3.out.below hb4, hR.le hw3⟩
  clear hP hS hD hRF hNR hNI hpk4 hR hb4 HM3 HO3 hE hw3
  have HN : Hid ((u4.alloc (.cells carz 48)).heap[u4.heap.size]? = some (.cells carz 48 (0, 0))) := heap_alloc_new u4 _
  go_upto_region 9 with (first
    | (refine wpList_store_row rfl 48 (.tmp 7) (.tmp 32) rfl u4.heap.size (carc v P S D (.slice R NR rc) (NI : Int)) rfl rfl 48 carz HN.out (by kernel_rfl) rfl (car_one ..) ?_))
  change Code.wp _ _ _ _ ((u4.alloc (.cells carz 48)).setRow u4.heap.size (carc v P S D (.slice R NR rc) (NI : Int)))
  obtain ⟨q7, hq⟩ : ∃ q, q = u4.heap.size := ⟨_, rfl⟩
  have HP5 : Hid (PS w ((u4.alloc (.cells carz 48)).setRow q7 (carc v P S D (.slice R NR rc) (NI : Int))) [(w.heap.size, .cells pkz 32 (0, 0)), (q4, .cells (eth f (fun k => f (6 + k)) TY) 30 (0, 0)), (q7, .cells (carc v P S D (.slice R NR rc) (NI : Int)) 48 (0, 0))] (some ⟨g1, 0, none⟩) (n - 14) c1 (pkG f) R NR rc RF) := Lib.hid (HP4.out.newrow carz (carc v P S D (.slice R NR rc) (NI : Int)) 48 q7 hq)
  rw [← hq]
  clear hq HN HP4
  generalize (u4.alloc (.cells carz 48)).setRow q7 (carc v P S D (.slice R NR rc) (NI : Int)) = u5 at *
  rcases prot_any v P with ⟨hX, h6, h17, hi⟩ | ⟨F, hX, hcf, hFn⟩
  · have hpr10 : prE v P S D RF NR = 10 := by unfold prE; rw [if_neg h6, if_neg h17, if_neg (by rw [hi]; decide)]
    clear h6 h17 hi
    rename_i Kc hKc
    refine wp_region_inv2 (fun a0 l a W => l.size = 10 ∧ a0.tmps.size = 69 ∧ Below u5.heap.size u5 W ∧ ∃ v39 v8, FrU a0 ([(0, 39, v39), (1, 40, .pointer (some ⟨q7, 0, none⟩)), (2, 41, kk v P), (3, 42, .tuple #[.agg #[.nilFunc], .bool false]), (4, 38, .tuple #[.agg #[.nilFunc], .bool false]), (5, 43, .agg #[.nilFunc]), (6, 44, .bool false), (7, 8, v8), (9, 9, .bool false)] : List (Nat × Nat × Value)) l a ∧ (l.getD 0 false = true → mapF v39 W) ∧
      (l.getD 7 false = true → ∃ q, v8 = .pointer (some ⟨q, 0, none⟩) ∧ u5.heap.size ≤ q ∧ W.heap[q]? = some (.cells (if l.getD 8 false = true then #[.nilFunc] else #[.nilFunc]) 53 (0, 0))) ∧ (l.getD 8 false = true → l.getD 7 false = true)) ?_ ?_ ?_ ?_ ?_ ?_
    · kernel_rfl
    · exact fun _ _ _ h => h.1
    · kernel_rfl
    · exact ⟨by simp, rfl, (Below.refl _ _).drew, undef, undef, FrU.start _ _ _, fun h => (by rw [getD_none] at h; cases h), fun h => (by rw [getD_none] at h; cases h), fun h => (by rw [getD_none] at h; cases h)⟩
    · intro l a W i o hI ho hn hdep
      obtain ⟨hl, hsz, hB, v39, v8, hF, hm, h8, h87⟩ := hI
      match i, ho, hn with
      | 0, ho, hn =>
        simp only [List.getElem?_toArray, List.getElem?_cons_zero, Option.some.injEq] at ho
        subst ho
        refine owp_call (fn := 17) (args := #[]) (by clear hdep; go_simp) ?_
        refine (protocols_any W).mono ?_
        rintro e w' ⟨he, hb, es, clock, h1, h2⟩
        refine ⟨_, he, by simp [hl], hsz, hB.trans (hb.mono hB.size), .map (some W.heap.size), v8, hF.put 0 39 _ (by rw [hsz]; decide) (by simp) (by simp) (by simp), fun _ => ⟨_, es, clock, rfl, h1, h2⟩, fun h => ?_, fun h => ?_⟩
        · rw [getD_set (show 7 ≠ 0 by decide)] at h
          rw [getD_set (show 8 ≠ 0 by decide)]
          obtain ⟨q, e1, e2, e3⟩ := h8 h
          exact ⟨q, e1, e2, (hb.block _ (lt_heap e3)).trans e3⟩
        · rw [getD_set (show 8 ≠ 0 by decide)] at h
          rw [getD_set (show 7 ≠ 0 by decide)]
          exact h87 h
      | 1, ho, hn =>
        simp only [List.getElem?_toArray, List.getElem?_cons_zero, List.getElem?_cons_succ, Option.some.injEq] at ho
        subst ho
        have h7 : a.tmps[7]?.getD undef = .pointer (some ⟨q7, 0, none⟩) := hF.base 7 (by simp) rfl
        exact owp_value (.pointer (some ⟨q7, 0, none⟩)) (w' := W) (by clear hdep; go_simp) ⟨by simp [hl], hsz, hB, v39, v8, hF.put 1 40 _ (by rw [hsz]; decide) (by simp) (by simp) (by simp), fun h => hm (by rw [getD_set (show 0 ≠ 1 by decide)] at h; exact h), fun h => (by rw [getD_set (show 7 ≠ 1 by decide)] at h; rw [getD_set (show 8 ≠ 1 by decide)]; exact h8 h), fun h => (by rw [getD_set (show 8 ≠ 1 by decide)] at h; rw [getD_set (show 7 ≠ 1 by decide)]; exact h87 h)⟩
      | 2, ho, hn =>
        simp only [List.getElem?_toArray, List.getElem?_cons_zero, List.getElem?_cons_succ, Option.some.injEq] at ho
        subst ho
        have h40 := hF.slot (i := 1) (s := 40) (v := .pointer (some ⟨q7, 0, none⟩)) (by simp) (hdep ⟨1, .data⟩ (by simp) rfl)
        have hx : W.rangeAt q7 0 [Value.bool v, .int .u8 P] := fun j y hy => by
          match j, hy with
          | 0, hy => simp at hy; subst hy; exact (hB.cell (p := ⟨q7, 0, none⟩) (lt_heap (HP5.out.mem.get 2 rfl))).trans (blk_cell (HP5.out.mem.get 2 rfl) 0)
          | 1, hy => simp at hy; subst hy; exact (hB.cell (p := ⟨q7, 1, none⟩) (lt_heap (HP5.out.mem.get 2 rfl))).trans (blk_cell (HP5.out.mem.get 2 rfl) 1)
          | j + 2, hy => simp at hy
        have hld := run_loadVar_mid (P := Try.prog) W q7 0 46 [Value.bool v, .int .u8 P] _ hx Try.underlying46 rfl (by kernel_rfl)
        refine owp_value (kk v P) (w' := W) ?_ ⟨by simp [hl], hsz, hB, v39, v8, hF.put 2 41 _ (by rw [hsz]; decide) (by simp) (by simp) (by simp), fun h => hm (by rw [getD_set (show 0 ≠ 2 by decide)] at h; exact h), fun h => (by rw [getD_set (show 7 ≠ 2 by decide)] at h; rw [getD_set (show 8 ≠ 2 by decide)]; exact h8 h), fun h => (by rw [getD_set (show 8 ≠ 2 by decide)] at h; rw [getD_set (show 7 ≠ 2 by decide)]; exact h87 h)⟩
        clear hdep hx
        simp only [execOp, Act.eval, Array.getD_eq_getD_getElem?, h40, Instr.loadAt, Instr.sureAddr, Sem.run_bind, Sem.run_pure, Result.andThen_ok, hld]
        rfl
      | 3, ho, hn =>
        simp only [List.getElem?_toArray, List.getElem?_cons_zero, List.getElem?_cons_succ, Option.some.injEq] at ho
        subst ho
        have h39 := hF.slot (i := 0) (s := 39) (v := v39) (by simp) (hdep ⟨0, .data⟩ (by simp) rfl)
        have h41 := hF.slot (i := 2) (s := 41) (v := kk v P) (by simp) (hdep ⟨2, .data⟩ (by simp) rfl)
        obtain ⟨b, es, clock, rfl, hb9, hps⟩ := hm (hdep ⟨0, .data⟩ (by simp) rfl)
        have hlk := look_any hps v P hb9
        rw [hX] at hlk
        refine owp_value (.tuple #[.agg #[.nilFunc], .bool false]) (w' := W) ?_ ⟨by simp [hl], hsz, hB, .map (some b), v8, hF.put 3 42 _ (by rw [hsz]; decide) (by simp) (by simp) (by simp), fun h => hm (by rw [getD_set (show 0 ≠ 3 by decide)] at h; exact h), fun h => (by rw [getD_set (show 7 ≠ 3 by decide)] at h; rw [getD_set (show 8 ≠ 3 by decide)]; exact h8 h), fun h => (by rw [getD_set (show 8 ≠ 3 by decide)] at h; rw [getD_set (show 7 ≠ 3 by decide)]; exact h87 h)⟩
        clear hdep
        simp [execOp, Act.eval, h39, h41, hlk]
      | 4, ho, hn =>
        simp only [List.getElem?_toArray, List.getElem?_cons_zero, List.getElem?_cons_succ, Option.some.injEq] at ho
        subst ho
        have h42 := hF.slot (i := 3) (s := 42) (v := .tuple #[.agg #[.nilFunc], .bool false]) (by simp) (hdep ⟨3, .data⟩ (by simp) rfl)
        exact owp_value (.tuple #[.agg #[.nilFunc], .bool false]) (w' := W) (by clear hdep; simp [execOp, Act.eval, h42]) ⟨by simp [hl], hsz, hB, v39, v8, hF.put 4 38 _ (by rw [hsz]; decide) (by simp) (by simp) (by simp), fun h => hm (by rw [getD_set (show 0 ≠ 4 by decide)] at h; exact h), fun h => (by rw [getD_set (show 7 ≠ 4 by decide)] at h; rw [getD_set (show 8 ≠ 4 by decide)]; exact h8 h), fun h => (by rw [getD_set (show 8 ≠ 4 by decide)] at h; rw [getD_set (show 7 ≠ 4 by decide)]; exact h87 h)⟩
      | 5, ho, hn =>
        simp only [List.getElem?_toArray, List.getElem?_cons_zero, List.getElem?_cons_succ, Option.some.injEq] at ho
        subst ho
        have h38 := hF.slot (i := 4) (s := 38) (v := .tuple #[.agg #[.nilFunc], .bool false]) (by simp) (hdep ⟨4, .data⟩ (by simp) rfl)
        exact owp_value (.agg #[.nilFunc]) (w' := W) (by clear hdep; go_simp) ⟨by simp [hl], hsz, hB, v39, v8, hF.put 5 43 _ (by rw [hsz]; decide) (by simp) (by simp) (by simp), fun h => hm (by rw [getD_set (show 0 ≠ 5 by decide)] at h; exact h), fun h => (by rw [getD_set (show 7 ≠ 5 by decide)] at h; rw [getD_set (show 8 ≠ 5 by decide)]; exact h8 h), fun h => (by rw [getD_set (show 8 ≠ 5 by decide)] at h; rw [getD_set (show 7 ≠ 5 by decide)]; exact h87 h)⟩
      | 6, ho, hn =>
        simp only [List.getElem?_toArray, List.getElem?_cons_zero, List.getElem?_cons_succ, Option.some.injEq] at ho
        subst ho
        have h38 := hF.slot (i := 4) (s := 38) (v := .tuple #[.agg #[.nilFunc], .bool false]) (by simp) (hdep ⟨4, .data⟩ (by simp) rfl)
        exact owp_value (.bool false) (w' := W) (by clear hdep; go_simp) ⟨by simp [hl], hsz, hB, v39, v8, hF.put 6 44 _ (by rw [hsz]; decide) (by simp) (by simp) (by simp), fun h => hm (by rw [getD_set (show 0 ≠ 6 by decide)] at h; exact h), fun h => (by rw [getD_set (show 7 ≠ 6 by decide)] at h; rw [getD_set (show 8 ≠ 6 by decide)]; exact h8 h), fun h => (by rw [getD_set (show 8 ≠ 6 by decide)] at h; rw [getD_set (show 7 ≠ 6 by decide)]; exact h87 h)⟩
      | 7, ho, hn =>
        simp only [List.getElem?_toArray, List.getElem?_cons_zero, List.getElem?_cons_succ, Option.some.injEq] at ho
        subst ho
        have hn8 : l.getD 8 false = false := by
          cases hc : l.getD 8 false with
          | false => rfl
          | true =>
            have q := h87 hc
            rw [Array.getD_eq_getD_getElem?] at q hn
            cases hd : l[7]? with
            | none => rw [hd] at hn; cases hn
            | some b => rw [hd] at q hn; simp at q hn; rw [hn] at q; cases q
        refine owp_value (.pointer (some ⟨W.heap.size, 0, none⟩)) (w' := W.alloc (.cells #[.nilFunc] 53)) (by clear hdep; go_simp) ⟨by simp [hl], hsz, hB.trans ((below_alloc W _).mono hB.size), v39, .pointer (some ⟨W.heap.size, 0, none⟩), hF.put 7 8 _ (by rw [hsz]; decide) (by simp) (by simp) (by simp), fun h => ?_, fun h => ?_, fun h => ?_⟩
        · rw [getD_set (show 0 ≠ 7 by decide)] at h
          exact stb_map _ _ _ (hm h) (below_alloc W _)
        · rw [getD_set (show 8 ≠ 7 by decide), hn8]
          exact ⟨_, rfl, hB.size, heap_alloc_new W _⟩
        · exact getD_set_self hn
      | 8, ho, hn =>
        simp only [List.getElem?_toArray, List.getElem?_cons_zero, List.getElem?_cons_succ, Option.some.injEq] at ho
        subst ho
        have d7 : l.getD 7 false = true := (hdep ⟨7, .data⟩ (by simp) rfl)
        obtain ⟨q, rfl, hq1, hq2⟩ := h8 d7
        have hn8 : l.getD 8 false = false := by
          rw [Array.getD_eq_getD_getElem?] at hn ⊢
          cases hd : l[8]? with
          | none => rfl
          | some b => rw [hd] at hn; simpa using hn
        rw [hn8, if_neg (by decide)] at hq2
        have e8 := hF.slot (i := 7) (s := 8) (v := .pointer (some ⟨q, 0, none⟩)) (by simp) d7
        have e43 := hF.slot (i := 5) (s := 43) (v := .agg #[.nilFunc]) (by simp) (hdep ⟨5, .data⟩ (by simp) rfl)
        refine wp_store_row 53 (.tmp 8) (.tmp 43) rfl q #[.nilFunc] (by simp [Act.eval, e8]) (by simp [Act.eval, e43]) 53 #[.nilFunc] hq2 (by kernel_rfl) rfl (by simp [Value.oneCell']) ?_
        refine ⟨by simp [hl], hsz, below_setRow hB hq1 _, v39, .pointer (some ⟨q, 0, none⟩), hF.skip 8 (by simp), fun h => ?_, fun h => ?_, fun h => ?_⟩
        · rw [getD_set (show 0 ≠ 8 by decide)] at h
          obtain ⟨b, es, clock, e1, e2, e3⟩ := hm h
          refine ⟨b, es, clock, e1, ?_, e3⟩
          rw [setRow_other W q b _ (fun e => by rw [e, hq2] at e2; cases e2)]
          exact e2
        · refine ⟨q, rfl, hq1, ?_⟩
          rw [if_pos (getD_set_self hn)]
          exact setRow_heap W q _ _ _ _ hq2
        · rw [getD_set (show 7 ≠ 8 by decide)]
          exact d7
      | 9, ho, hn =>
        simp only [List.getElem?_toArray, List.getElem?_cons_zero, List.getElem?_cons_succ, Option.some.injEq] at ho
        subst ho
        have h44 := hF.slot (i := 6) (s := 44) (v := .bool false) (by simp) (hdep ⟨6, .data⟩ (by simp) rfl)
        exact owp_value (.bool false) (w' := W) (by clear hdep; simp [execOp, Act.eval, h44]) ⟨by simp [hl], hsz, hB, v39, v8, hF.put 9 9 _ (by rw [hsz]; decide) (by simp) (by simp) (by simp), fun h => hm (by rw [getD_set (show 0 ≠ 9 by decide)] at h; exact h), fun h => (by rw [getD_set (show 7 ≠ 9 by decide)] at h; rw [getD_set (show 8 ≠ 9 by decide)]; exact h8 h), fun h => (by rw [getD_set (show 8 ≠ 9 by decide)] at h; rw [getD_set (show 7 ≠ 9 by decide)]; exact h87 h)⟩
      | i + 10, ho, hn => simp at ho
    · intro l a W1 hI hall
      obtain ⟨hl, hsz, hB, v39, v8, hF, hm, h8, _⟩ := hI
      have hall : ∀ i, i < 10 → l.getD i false = true := hall
      obtain ⟨q8, rfl, hl8, hq8⟩ := h8 (hall 7 (by decide))
      obtain ⟨b9, es9, ck9, rfl, _, _⟩ := hm (hall 0 (by decide))
      rw [if_pos (hall 8 (by decide))] at hq8
      have HP7 : Hid (PS w W1 [(w.heap.size, .cells pkz 32 (0, 0)), (q4, .cells (eth f (fun k => f (6 + k)) TY) 30 (0, 0)), (q7, .cells (carc v P S D (.slice R NR rc) (NI : Int)) 48 (0, 0)), (q8, .cells #[.nilFunc] 53 (0, 0))] (some ⟨g1, 0, none⟩) (n - 14) c1 (pkG f) R NR rc RF) := Lib.hid ((HP5.out.step hB).add (o := .cells #[.nilFunc] 53 (0, 0)) hq8 (fun p hp => Nat.lt_of_lt_of_le (HP5.out.mem.top p hp) hl8) (Nat.le_trans HP5.out.mem.below.size hl8))
      have ha := hF.all (by simp only [List.mem_cons, List.not_mem_nil, or_false]; rintro x (rfl | rfl | rfl | rfl | rfl | rfl | rfl | rfl | rfl) <;> exact hall _ (by dsimp only; decide)) (by simp) (by rw [hsz]; simp)
      subst ha
      clear hF hm h8 hall hl hsz hB hq8 hl8 HP5
      generalize W1 = u7 at *
      refine hKc _ _ ?_
      simp only [setAll, List.setIfInBounds_toArray, List.set_cons_succ, List.set_cons_zero]
      have hne : (10 : Int) ≠ 0 := by decide
      have hpk := HPK.out.trans hpr10
      clear hpr10
      go_wp2_with (first
        | (refine wpList_store_row rfl 32 (.tmp 2) (.tmp 47) rfl w.heap.size pkz rfl rfl 32 pkz (HP7.out.mem.get 0 rfl) (by kernel_rfl) rfl pkz_one ?_))
      refine bodyPost_ret (v := .tuple #[.agg pkz, .int .i64 10]) (results_row1 Try.results6 _ _ w.heap.size 32 pkz (0, 0) _ rfl (setRow_heap _ w.heap.size _ pkz _ _ (HP7.out.mem.get 0 rfl)) Try.underlying32 rfl (by kernel_rfl)) rfl ?_
      refine .inl ⟨?_, ?_, below_setRow HP7.out.mem.below (Nat.le_refl _) _⟩
      · rw [hpk]
        first | exact hne | decide
      · rw [hpk] <;> rfl
  · have HFN := Lib.hid (hFn S D HSB.out HDB.out R NR rc (NI : Int) RF HRB.out (by omega) hcr hcr9)
    clear hFn
    rename_i Kc hKc
    refine wp_region_inv2 (fun a0 l a W => l.size = 10 ∧ a0.tmps.size = 69 ∧ Below u5.heap.size u5 W ∧ ∃ v39 v8, FrU a0 ([(0, 39, v39), (1, 40, .pointer (some ⟨q7, 0, none⟩)), (2, 41, kk v P), (3, 42, .tuple #[.agg #[.func (.func F) #[] #[]], .bool true]), (4, 38, .tuple #[.agg #[.func (.func F) #[] #[]], .bool true]), (5, 43, .agg #[.func (.func F) #[] #[]]), (6, 44, .bool true), (7, 8, v8), (9, 9, .bool true)] : List (Nat × Nat × Value)) l a ∧ (l.getD 0 false = true → mapF v39 W) ∧
      (l.getD 7 false = true → ∃ q, v8 = .pointer (some ⟨q, 0, none⟩) ∧ u5.heap.size ≤ q ∧ W.heap[q]? = some (.cells (if l.getD 8 false = true then #[.func (.func F) #[] #[]] else #[.nilFunc]) 53 (0, 0))) ∧ (l.getD 8 false = true → l.getD 7 false = true)) ?_ ?_ ?_ ?_ ?_ ?_
    · kernel_rfl
    · exact fun _ _ _ h => h.1
    · kernel_rfl
    · exact ⟨by simp, rfl, (Below.refl _ _).drew, undef, undef, FrU.start _ _ _, fun h => (by rw [getD_none] at h; cases h), fun h => (by rw [getD_none] at h; cases h), fun h => (by rw [getD_none] at h; cases h)⟩
    · intro l a W i o hI ho hn hdep
      obtain ⟨hl, hsz, hB, v39, v8, hF, hm, h8, h87⟩ := hI
      match i, ho, hn with
      | 0, ho, hn =>
        simp only [List.getElem?_toArray, List.getElem?_cons_zero, Option.some.injEq] at ho
        subst ho
        refine owp_call (fn := 17) (args := #[]) (by clear hdep; go_simp) ?_
        refine (protocols_any W).mono ?_
        rintro e w' ⟨he, hb, es, clock, h1, h2⟩
        refine ⟨_, he, by simp [hl], hsz, hB.trans (hb.mono hB.size), .map (some W.heap.size), v8, hF.put 0 39 _ (by rw [hsz]; decide) (by simp) (by simp) (by simp), fun _ => ⟨_, es, clock, rfl, h1, h2⟩, fun h => ?_, fun h => ?_⟩
        · rw [getD_set (show 7 ≠ 0 by decide)] at h
          rw [getD_set (show 8 ≠ 0 by decide)]
          obtain ⟨q, e1, e2, e3⟩ := h8 h
          exact ⟨q, e1, e2, (hb.block _ (lt_heap e3)).trans e3⟩
        · rw [getD_set (show 8 ≠ 0 by decide)] at h
          rw [getD_set (show 7 ≠ 0 by decide)]
          exact h87 h
      | 1, ho, hn =>
        simp only [List.getElem?_toArray, List.getElem?_cons_zero, List.getElem?_cons_succ, Option.some.injEq] at ho
        subst ho
        have h7 : a.tmps[7]?.getD undef = .pointer (some ⟨q7, 0, none⟩) := hF.base 7 (by simp) rfl
        exact owp_value (.pointer (some ⟨q7, 0, none⟩)) (w' := W) (by clear hdep; go_simp) ⟨by simp [hl], hsz, hB, v39, v8, hF.put 1 40 _ (by rw [hsz]; decide) (by simp) (by simp) (by simp), fun h => hm (by rw [getD_set (show 0 ≠ 1 by decide)] at h; exact h), fun h => (by rw [getD_set (show 7 ≠ 1 by decide)] at h; rw [getD_set (show 8 ≠ 1 by decide)]; exact h8 h), fun h => (by rw [getD_set (show 8 ≠ 1 by decide)] at h; rw [getD_set (show 7 ≠ 1 by decide)]; exact h87 h)⟩
      | 2, ho, hn =>
        simp only [List.getElem?_toArray, List.getElem?_cons_zero, List.getElem?_cons_succ, Option.some.injEq] at ho
        subst ho
        have h40 := hF.slot (i := 1) (s := 40) (v := .pointer (some ⟨q7, 0, none⟩)) (by simp) (hdep ⟨1, .data⟩ (by simp) rfl)
        have hx : W.rangeAt q7 0 [Value.bool v, .int .u8 P] := fun j y hy => by
          match j, hy with
          | 0, hy => simp at hy; subst hy; exact (hB.cell (p := ⟨q7, 0, none⟩) (lt_heap (HP5.out.mem.get 2 rfl))).trans (blk_cell (HP5.out.mem.get 2 rfl) 0)
          | 1, hy => simp at hy; subst hy; exact (hB.cell (p := ⟨q7, 1, none⟩) (lt_heap (HP5.out.mem.get 2 rfl))).trans (blk_cell (HP5.out.mem.get 2 rfl) 1)
          | j + 2, hy => simp at hy
        have hld := run_loadVar_mid (P := Try.prog) W q7 0 46 [Value.bool v, .int .u8 P] _ hx Try.underlying46 rfl (by kernel_rfl)
        refine owp_value (kk v P) (w' := W) ?_ ⟨by simp [hl], hsz, hB, v39, v8, hF.put 2 41 _ (by rw [hsz]; decide) (by simp) (by simp) (by simp), fun h => hm (by rw [getD_set (show 0 ≠ 2 by decide)] at h; exact h), fun h => (by rw [getD_set (show 7 ≠ 2 by decide)] at h; rw [getD_set (show 8 ≠ 2 by decide)]; exact h8 h), fun h => (by rw [getD_set (show 8 ≠ 2 by decide)] at h; rw [getD_set (show 7 ≠ 2 by decide)]; exact h87 h)⟩
        clear hdep hx
        simp only [execOp, Act.eval, Array.getD_eq_getD_getElem?, h40, Instr.loadAt, Instr.sureAddr, Sem.run_bind, Sem.run_pure, Result.andThen_ok, hld]
        rfl
      | 3, ho, hn =>
        simp only [List.getElem?_toArray, List.getElem?_cons_zero, List.getElem?_cons_succ, Option.some.injEq] at ho
        subst ho
        have h39 := hF.slot (i := 0) (s := 39) (v := v39) (by simp) (hdep ⟨0, .data⟩ (by simp) rfl)
        have h41 := hF.slot (i := 2) (s := 41) (v := kk v P) (by simp) (hdep ⟨2, .data⟩ (by simp) rfl)
        obtain ⟨b, es, clock, rfl, hb9, hps⟩ := hm (hdep ⟨0, .data⟩ (by simp) rfl)
        have hlk := look_any hps v P hb9
        rw [hX] at hlk
        refine owp_value (.tuple #[.agg #[.func (.func F) #[] #[]], .bool true]) (w' := W) ?_ ⟨by simp [hl], hsz, hB, .map (some b), v8, hF.put 3 42 _ (by rw [hsz]; decide) (by simp) (by simp) (by simp), fun h => hm (by rw [getD_set (show 0 ≠ 3 by decide)] at h; exact h), fun h => (by rw [getD_set (show 7 ≠ 3 by decide)] at h; rw [getD_set (show 8 ≠ 3 by decide)]; exact h8 h), fun h => (by rw [getD_set (show 8 ≠ 3 by decide)] at h; rw [getD_set (show 7 ≠ 3 by decide)]; exact h87 h)⟩
        clear hdep
        simp [execOp, Act.eval, h39, h41, hlk, fv]
      | 4, ho, hn =>
        simp only [List.getElem?_toArray, List.getElem?_cons_zero, List.getElem?_cons_succ, Option.some.injEq] at ho
        subst ho
        have h42 := hF.slot (i := 3) (s := 42) (v := .tuple #[.agg #[.func (.func F) #[] #[]], .bool true]) (by simp) (hdep ⟨3, .data⟩ (by simp) rfl)
        exact owp_value (.tuple #[.agg #[.func (.func F) #[] #[]], .bool true]) (w' := W) (by clear hdep; simp [execOp, Act.eval, h42]) ⟨by simp [hl], hsz, hB, v39, v8, hF.put 4 38 _ (by rw [hsz]; decide) (by simp) (by simp) (by simp), fun h => hm (by rw [getD_set (show 0 ≠ 4 by decide)] at h; exact h), fun h => (by rw [getD_set (show 7 ≠ 4 by decide)] at h; rw [getD_set (show 8 ≠ 4 by decide)]; exact h8 h), fun h => (by rw [getD_set (show 8 ≠ 4 by decide)] at h; rw [getD_set (show 7 ≠ 4 by decide)]; exact h87 h)⟩
      | 5, ho, hn =>
        simp only [List.getElem?_toArray, List.getElem?_cons_zero, List.getElem?_cons_succ, Option.some.injEq] at ho
        subst ho
        have h38 := hF.slot (i := 4) (s := 38) (v := .tuple #[.agg #[.func (.func F) #[] #[]], .bool true]) (by simp) (hdep ⟨4, .data⟩ (by simp) rfl)
        exact owp_value (.agg #[.func (.func F) #[] #[]]) (w' := W) (by clear hdep; go_simp) ⟨by simp [hl], hsz, hB, v39, v8, hF.put 5 43 _ (by rw [hsz]; decide) (by simp) (by simp) (by simp), fun h => hm (by rw [getD_set (show 0 ≠ 5 by decide)] at h; exact h), fun h => (by rw [getD_set (show 7 ≠ 5 by decide)] at h; rw [getD_set (show 8 ≠ 5 by decide)]; exact h8 h), fun h => (by rw [getD_set (show 8 ≠ 5 by decide)] at h; rw [getD_set (show 7 ≠ 5 by decide)]; exact h87 h)⟩
      | 6, ho, hn =>
        simp only [List.getElem?_toArray, List.getElem?_cons_zero, List.getElem?_cons_succ, Option.some.injEq] at ho
        subst ho
        have h38 := hF.slot (i := 4) (s := 38) (v := .tuple #[.agg #[.func (.func F) #[] #[]], .bool true]) (by simp) (hdep ⟨4, .data⟩ (by simp) rfl)
        exact owp_value (.bool true) (w' := W) (by clear hdep; go_simp) ⟨by simp [hl], hsz, hB, v39, v8, hF.put 6 44 _ (by rw [hsz]; decide) (by simp) (by simp) (by simp), fun h => hm (by rw [getD_set (show 0 ≠ 6 by decide)] at h; exact h), fun h => (by rw [getD_set (show 7 ≠ 6 by decide)] at h; rw [getD_set (show 8 ≠ 6 by decide)]; exact h8 h), fun h => (by rw [getD_set (show 8 ≠ 6 by decide)] at h; rw [getD_set (show 7 ≠ 6 by decide)]; exact h87 h)⟩
      | 7, ho, hn =>
        simp only [List.getElem?_toArray, List.getElem?_cons_zero, List.getElem?_cons_succ, Option.some.injEq] at ho
        subst ho
        have hn8 : l.getD 8 false = false := by
          cases hc : l.getD 8 false with
          | false => rfl
          | true =>
            have q := h87 hc
            rw [Array.getD_eq_getD_getElem?] at q hn
            cases hd : l[7]? with
            | none => rw [hd] at hn; cases hn
            | some b => rw [hd] at q hn; simp at q hn; rw [hn] at q; cases q
        refine owp_value (.pointer (some ⟨W.heap.size, 0, none⟩)) (w' := W.alloc (.cells #[.nilFunc] 53)) (by clear hdep; go_simp) ⟨by simp [hl], hsz, hB.trans ((below_alloc W _).mono hB.size), v39, .pointer (some ⟨W.heap.size, 0, none⟩), hF.put 7 8 _ (by rw [hsz]; decide) (by simp) (by simp) (by simp), fun h => ?_, fun h => ?_, fun h => ?_⟩
        · rw [getD_set (show 0 ≠ 7 by decide)] at h
          exact stb_map _ _ _ (hm h) (below_alloc W _)
        · rw [getD_set (show 8 ≠ 7 by decide), hn8]
          exact ⟨_, rfl, hB.size, heap_alloc_new W _⟩
        · exact getD_set_self hn
      | 8, ho, hn =>
        simp only [List.getElem?_toArray, List.getElem?_cons_zero, List.getElem?_cons_succ, Option.some.injEq] at ho
        subst ho
        have d7 : l.getD 7 false = true := (hdep ⟨7, .data⟩ (by simp) rfl)
        obtain ⟨q, rfl, hq1, hq2⟩ := h8 d7
        have hn8 : l.getD 8 false = false := by
          rw [Array.getD_eq_getD_getElem?] at hn ⊢
          cases hd : l[8]? with
          | none => rfl
          | some b => rw [hd] at hn; simpa using hn
        rw [hn8, if_neg (by decide)] at hq2
        have e8 := hF.slot (i := 7) (s := 8) (v := .pointer (some ⟨q, 0, none⟩)) (by simp) d7
        have e43 := hF.slot (i := 5) (s := 43) (v := .agg #[.func (.func F) #[] #[]]) (by simp) (hdep ⟨5, .data⟩ (by simp) rfl)
        refine wp_store_row 53 (.tmp 8) (.tmp 43) rfl q #[.func (.func F) #[] #[]] (by simp [Act.eval, e8]) (by simp [Act.eval, e43]) 53 #[.nilFunc] hq2 (by kernel_rfl) rfl (by simp [Value.oneCell']) ?_
        refine ⟨by simp [hl], hsz, below_setRow hB hq1 _, v39, .pointer (some ⟨q, 0, none⟩), hF.skip 8 (by simp), fun h => ?_, fun h => ?_, fun h => ?_⟩
        · rw [getD_set (show 0 ≠ 8 by decide)] at h
          obtain ⟨b, es, clock, e1, e2, e3⟩ := hm h
          refine ⟨b, es, clock, e1, ?_, e3⟩
          rw [setRow_other W q b _ (fun e => by rw [e, hq2] at e2; cases e2)]
          exact e2
        · refine ⟨q, rfl, hq1, ?_⟩
          rw [if_pos (getD_set_self hn)]
          exact setRow_heap W q _ _ _ _ hq2
        · rw [getD_set (show 7 ≠ 8 by decide)]
          exact d7
      | 9, ho, hn =>
        simp only [List.getElem?_toArray, List.getElem?_cons_zero, List.getElem?_cons_succ, Option.some.injEq] at ho
        subst ho
        have h44 := hF.slot (i := 6) (s := 44) (v := .bool true) (by simp) (hdep ⟨6, .data⟩ (by simp) rfl)
        exact owp_value (.bool true) (w' := W) (by clear hdep; simp [execOp, Act.eval, h44]) ⟨by simp [hl], hsz, hB, v39, v8, hF.put 9 9 _ (by rw [hsz]; decide) (by simp) (by simp) (by simp), fun h => hm (by rw [getD_set (show 0 ≠ 9 by decide)] at h; exact h), fun h => (by rw [getD_set (show 7 ≠ 9 by decide)] at h; rw [getD_set (show 8 ≠ 9 by decide)]; exact h8 h), fun h => (by rw [getD_set (show 8 ≠ 9 by decide)] at h; rw [getD_set (show 7 ≠ 9 by decide)]; exact h87 h)⟩
      | i + 10, ho, hn => simp at ho
    · intro l a W1 hI hall
      obtain ⟨hl, hsz, hB, v39, v8, hF, hm, h8, _⟩ := hI
      have hall : ∀ i, i < 10 → l.getD i false = true := hall
      obtain ⟨q8, rfl, hl8, hq8⟩ := h8 (hall 7 (by decide))
      obtain ⟨b9, es9, ck9, rfl, _, _⟩ := hm (hall 0 (by decide))
      rw [if_pos (hall 8 (by decide))] at hq8
      have HP7 : Hid (PS w W1 [(w.heap.size, .cells pkz 32 (0, 0)), (q4, .cells (eth f (fun k => f (6 + k)) TY) 30 (0, 0)), (q7, .cells (carc v P S D (.slice R NR rc) (NI : Int)) 48 (0, 0)), (q8, .cells #[.func (.func F) #[] #[]] 53 (0, 0))] (some ⟨g1, 0, none⟩) (n - 14) c1 (pkG f) R NR rc RF) := Lib.hid ((HP5.out.step hB).add (o := .cells #[.func (.func F) #[] #[]] 53 (0, 0)) hq8 (fun p hp => Nat.lt_of_lt_of_le (HP5.out.mem.top p hp) hl8) (Nat.le_trans HP5.out.mem.below.size hl8))
      have ha := hF.all (by simp only [List.mem_cons, List.not_mem_nil, or_false]; rintro x (rfl | rfl | rfl | rfl | rfl | rfl | rfl | rfl | rfl) <;> exact hall _ (by dsimp only; decide)) (by simp) (by rw [hsz]; simp)
      subst ha
      clear hF hm h8 hall hl hsz hB hq8 hl8 HP5
      generalize W1 = u7 at *
      refine hKc _ _ ?_
      simp only [setAll, List.setIfInBounds_toArray, List.set_cons_succ, List.set_cons_zero]
      have x8 : u7.cell? ⟨q8, 0, none⟩ = some (.func (.func F) #[] #[]) := blk_cell (HP7.out.mem.get 3 rfl) 0
      have HCL := Lib.hid (HFN.out u7 HP7.out.or_.rd)
      go_wp2_with (first
        | (refine wpList_load_row rfl 48 (.tmp 7) rfl q7 rfl 48 (carc v P S D (.slice R NR rc) (NI : Int)) (0, 0) _ (HP7.out.mem.get 2 rfl) Try.underlying48 rfl (by kernel_rfl) ?_))
      refine HCL.out.mono ?_
      rintro e u8 hq
      clear HCL x8 HFN hcf
      rcases hq with ⟨hE, rfl, hb⟩ | ⟨hE, rfl, hb⟩
      · obtain ⟨E6, hE6⟩ : ∃ E, E = prE v P S D RF NR := ⟨_, rfl⟩
        rw [← hE6] at hE ⊢
        have hne : E6 ≠ 0 := hE
        have hne' : (E6 != 0) = true := by simpa using hE
        have HP8 := Lib.hid (HP7.out.step hb)
        have HPKE := Lib.hid (HPK.out.trans hE6.symm)
        clear hb HP7 hE6
        have HN : Hid ((u8.alloc (.cells pkz 32)).heap[u8.heap.size]? = some (.cells pkz 32 (0, 0))) := heap_alloc_new u8 _
        go_upto_if 56 with (first
          | (refine wpList_store_row rfl 32 (.tmp 10) (.tmp 53) rfl u8.heap.size pkz rfl rfl 32 pkz HN.out (by kernel_rfl) rfl (pkz_one) ?_))
        change Code.wp _ _ _ _ ((u8.alloc (.cells pkz 32)).setRow u8.heap.size pkz)
        obtain ⟨q10, hq⟩ : ∃ q, q = u8.heap.size := ⟨_, rfl⟩
        have HP9 : Hid (PS w ((u8.alloc (.cells pkz 32)).setRow q10 pkz) [(w.heap.size, .cells pkz 32 (0, 0)), (q4, .cells (eth f (fun k => f (6 + k)) TY) 30 (0, 0)), (q7, .cells (carc v P S D (.slice R NR rc) (NI : Int)) 48 (0, 0)), (q8, .cells #[.func (.func F) #[] #[]] 53 (0, 0)), (q10, .cells pkz 32 (0, 0))] (some ⟨g1, 0, none⟩) (n - 14) c1 (pkG f) R NR rc RF) := Lib.hid (HP8.out.newrow pkz pkz 32 q10 hq)
        rw [← hq]
        clear hq HN HP8
        generalize (u8.alloc (.cells pkz 32)).setRow q10 pkz = u9 at *
        have hpk := HPKE.out
        go_wp2_with (first
          | (refine wpList_store_row rfl 32 (.tmp 2) (.tmp 57) rfl w.heap.size pkz rfl rfl 32 pkz (HP9.out.mem.get 0 rfl) (by kernel_rfl) rfl pkz_one ?_))
        refine bodyPost_ret (v := .tuple #[.agg pkz, .int .i64 E6]) (results_row1 Try.results6 _ _ w.heap.size 32 pkz (0, 0) _ rfl (setRow_heap _ w.heap.size _ pkz _ _ (HP9.out.mem.get 0 rfl)) Try.underlying32 rfl (by kernel_rfl)) rfl ?_
        refine .inl ⟨?_, ?_, below_setRow HP9.out.mem.below (Nat.le_refl _) _⟩
        · rw [hpk]
          first | exact hne | decide
        · rw [hpk] <;> rfl
      · have HE0 := Lib.hid hE
        obtain ⟨tv, tp, ts, td, tsp, tdp, hpt⟩ := pkT_tup v P S D RF NR
        have HPT := Lib.hid hpt
        obtain ⟨FL, hFL⟩ : ∃ x, x = pkL P RF := ⟨_, rfl⟩
        obtain ⟨RB, hRB⟩ : ∃ x, x = pkR P := ⟨_, rfl⟩
        rw [hpt, ← hFL, ← hRB, pkA_is]
        have HFL := Lib.hid hFL
        have HRP := Lib.hid hRB
        have HP8 := Lib.hid (HP7.out.step hb)
        clear hb HP7 hE hpt hFL hRB
        have HN : Hid ((u8.alloc (.cells pkz 32)).heap[u8.heap.size]? = some (.cells pkz 32 (0, 0))) := heap_alloc_new u8 _
        go_upto_region 15 with (first
          | (refine wpList_store_row rfl 32 (.tmp 10) (.tmp 53) rfl u8.heap.size (pkc (fun _ => 0) (fun _ => 0) 0 tv tp ts td tsp tdp FL RB (.slice none 0 0)) rfl rfl 32 pkz HN.out (by kernel_rfl) rfl (pk_one ..) ?_))
        change Code.wp _ _ _ _ ((u8.alloc (.cells pkz 32)).setRow u8.heap.size (pkc (fun _ => 0) (fun _ => 0) 0 tv tp ts td tsp tdp FL RB (.slice none 0 0)))
        obtain ⟨q10, hq⟩ : ∃ q, q = u8.heap.size := ⟨_, rfl⟩
        have HP9 : Hid (PS w ((u8.alloc (.cells pkz 32)).setRow q10 (pkc (fun _ => 0) (fun _ => 0) 0 tv tp ts td tsp tdp FL RB (.slice none 0 0))) [(w.heap.size, .cells pkz 32 (0, 0)), (q4, .cells (eth f (fun k => f (6 + k)) TY) 30 (0, 0)), (q7, .cells (carc v P S D (.slice R NR rc) (NI : Int)) 48 (0, 0)), (q8, .cells #[.func (.func F) #[] #[]] 53 (0, 0)), (q10, .cells (pkc (fun _ => 0) (fun _ => 0) 0 tv tp ts td tsp tdp FL RB (.slice none 0 0)) 32 (0, 0))] (some ⟨g1, 0, none⟩) (n - 14) c1 (pkG f) R NR rc RF) := Lib.hid (HP8.out.newrow pkz (pkc (fun _ => 0) (fun _ => 0) 0 tv tp ts td tsp tdp FL RB (.slice none 0 0)) 32 q10 hq)
        rw [← hq]
        clear hq HN HP8
        generalize (u8.alloc (.cells pkz 32)).setRow q10 (pkc (fun _ => 0) (fun _ => 0) 0 tv tp ts td tsp tdp FL RB (.slice none 0 0)) = u9 at *
        go_upto_region 16 with (first
          | (refine wpList_load_row rfl 30 (.tmp 4) rfl q4 rfl 30 (eth f (fun k => f (6 + k)) TY) (0, 0) _ (HP9.out.mem.get 1 rfl) Try.underlying30 rfl (by kernel_rfl) ?_)
          | (refine wpList_store_mid rfl 30 (.tmp 60) (.tmp 59) rfl q10 0 (eth f (fun k => f (6 + k)) TY) rfl rfl (blk_there (HP9.out.mem.get 4 rfl) (by show 0 + 13 ≤ 52; omega)) (by kernel_rfl) (eth_one ..) ?_))
        have HPA : Hid (PS w (u9.setCells q10 0 ((eth f (fun k => f (6 + k)) TY)).toList) [(w.heap.size, .cells pkz 32 (0, 0)), (q4, .cells (eth f (fun k => f (6 + k)) TY) 30 (0, 0)), (q7, .cells (carc v P S D (.slice R NR rc) (NI : Int)) 48 (0, 0)), (q8, .cells #[.func (.func F) #[] #[]] 53 (0, 0)), (q10, .cells (pkc f (fun k => f (6 + k)) TY tv tp ts td tsp tdp FL RB (.slice none 0 0)) 32 (0, 0))] (some ⟨g1, 0, none⟩) (n - 14) c1 (pkG f) R NR rc RF) := Lib.hid (by
          have h := HP9.out.cells 4 rfl (by decide) 0 ((eth f (fun k => f (6 + k)) TY)).toList
          rw [pk_eth] at h
          exact h)
        clear HP9
        generalize u9.setCells q10 0 ((eth f (fun k => f (6 + k)) TY)).toList = uA at *
        have x35 : uA.cell? ⟨q7, 35, none⟩ = some (.int .i64 (NI : Int)) := blk_cell (HPA.out.mem.get 2 rfl) 35
        have x51 : uA.cell? ⟨q10, 51, none⟩ = some (.slice none 0 0) := blk_cell (HPA.out.mem.get 4 rfl) 51
        have y51 := blk_free (HPA.out.mem.get 4 rfl) 51
        have hsl := slice_full g1 (n - 14) c1 NI hNI0 hNIm hc1 hc19
        go_upto_region 17 with fail
        have HPB := Lib.hid (HPA.out.set 4 rfl (by decide) 51 (.slice (some ⟨g1, 0, none⟩) NI NI))
        rw [pk_inner] at HPB
        clear x35 x51 y51 hsl HPA
        generalize uA.setCell ⟨q10, 51, none⟩ (.slice (some ⟨g1, 0, none⟩) NI NI) = uB at *
        go_wp2_with (first
          | (refine wpList_load_row rfl 32 (.tmp 10) rfl q10 rfl 32 (pkc f (fun k => f (6 + k)) TY tv tp ts td tsp tdp FL RB (.slice (some ⟨g1, 0, none⟩) NI NI)) (0, 0) _ (HPB.out.mem.get 4 rfl) Try.underlying32 rfl (by kernel_rfl) ?_)
          | (refine wpList_store_row rfl 32 (.tmp 2) (.tmp 68) rfl w.heap.size (pkc f (fun k => f (6 + k)) TY tv tp ts td tsp tdp FL RB (.slice (some ⟨g1, 0, none⟩) NI NI)) rfl rfl 32 pkz (HPB.out.mem.get 0 rfl) (by kernel_rfl) rfl (pk_one ..) ?_))
        refine bodyPost_ret (v := .tuple #[.agg (pkc f (fun k => f (6 + k)) TY tv tp ts td tsp tdp FL RB (.slice (some ⟨g1, 0, none⟩) NI NI)), .int .i64 0]) (results_row1 Try.results6 _ _ w.heap.size 32 (pkc f (fun k => f (6 + k)) TY tv tp ts td tsp tdp FL RB (.slice (some ⟨g1, 0, none⟩) NI NI)) (0, 0) _ rfl (setRow_heap _ w.heap.size _ (pkc f (fun k => f (6 + k)) TY tv tp ts td tsp tdp FL RB (.slice (some ⟨g1, 0, none⟩) NI NI)) _ _ (HPB.out.mem.get 0 rfl)) Try.underlying32 rfl (by kernel_rfl)) rfl ?_
        refine .inr ⟨HPK.out.trans HE0.out, g1, NI, n - 14, c1, ?_, ?_, ?_, ?_, ?_, below_setRow HPB.out.mem.below (Nat.le_refl _) _⟩
        · rw [← HTY.out, ← HV.out, ← HP.out, ← HS.out, ← HD.out, ← HRF.out, ← HNR.out, ← HNI.out, HPT.out, ← HFL.out, ← HRP.out, pkA_is]
        · rw [← HV.out, ← HNI.out]
          exact Nat.le_refl _
        · exact Nat.le_trans hNIm (Nat.le_trans hc1 hc19)
        · rw [← HV.out, ← HNI.out]
          exact hNIm
        · exact HPB.out.oi.other (HPB.out.mem.get 0 rfl) (by decide) (fun j hj => setRow_other _ w.heap.size j (pkc f (fun k => f (6 + k)) TY tv tp ts td tsp tdp FL RB (.slice (some ⟨g1, 0, none⟩) NI NI)) hj)
end Go.Proofs.Ytlchegibfopglaa
