import Derived.Test.YtimcdnbfdkpffaaGreatGm28
/- Stage 14: the landed growing table: begin. -/
namespace Go.Proofs.YtimcdnbfdkpffaaGreat
set_option maxRecDepth 100000
open Go.RowKit Go.Shelf
theorem szF_ge : ∀ (f n m : Nat), n ≤ szF f n m
  | 0, _, _ => Nat.le_refl _
  | f + 1, n, m => by
    unfold szF
    split
    · have := szF_ge f (2 * n) m
      omega
    · exact Nat.le_refl _
theorem szF_stop {n m : Nat} (h : ¬ n < m) : ∀ f, szF f n m = n
  | 0 => rfl
  | f + 1 => by
    unfold szF
    rw [if_neg h]
def minN (a b : Nat) : Nat := if a < b then a else b
/-- How far the doubling has come: z is the size that is sought. -/
structure SzR (mo M z v : Nat) : Prop where
  pw : ∃ i j f, v = powJ i ∧ mo = powJ j ∧ i ≤ j ∧ j ≤ 15 ∧ M ≤ v * 2 ^ f ∧ z = minN mo (szF f v M)
  low : 16 ≤ v
theorem SzR.start {s : Gr} (hs : s.Ok) (hm : mayI (s.most : Int) = true) : SzR s.most (4 * s.now.entries) s.size 16 := by
  obtain ⟨j, hj, e⟩ := mayI_pow hm
  have e' : s.most = powJ j := by omega
  have hl := hs.low
  have h1 : 1 ≤ j := by
    rcases Nat.eq_zero_or_pos j with rfl | q
    · rw [e', show powJ 0 = 8 from rfl] at hl
      omega
    · exact q
  have h2 := (tent_le hs.now).1
  exact ⟨⟨1, j, 20, rfl, e', h1, hj, by omega, rfl⟩, Nat.le_refl _⟩
theorem SzR.le {mo M z v : Nat} (h : SzR mo M z v) : v ≤ mo ∧ mo ≤ 262144 ∧ mayI (v : Int) = true := by
  obtain ⟨⟨i, j, f, rfl, rfl, hij, hj, _, _⟩, _⟩ := h
  exact ⟨powJ_mono hij, (powJ_all hj).2.1, (powJ_all (by omega)).2.2.2⟩
theorem SzR.on {mo M z v : Nat} (h : SzR mo M z v) (h1 : v < M) (h2 : v < mo) : SzR mo M z (2 * v) := by
  obtain ⟨⟨i, j, f, hv, hm, hij, hj, hM, hz⟩, hl⟩ := h
  have hij' : i ≠ j := fun e => by subst e; omega
  cases f with
  | zero => omega
  | succ f =>
    refine ⟨⟨i + 1, j, f, by rw [hv]; rfl, hm, by omega, hj, ?_, ?_⟩, by omega⟩
    · rw [Nat.pow_succ] at hM
      have e : v * (2 ^ f * 2) = 2 * v * 2 ^ f := by rw [Nat.mul_comm (2 ^ f) 2, ← Nat.mul_assoc, Nat.mul_comm v 2]
      omega
    · rw [hz]
      have : szF (f + 1) v M = szF f (2 * v) M := by
        show (if v < M then szF f (2 * v) M else v) = _
        rw [if_pos h1]
      rw [this]
theorem SzR.end_ {mo M z v : Nat} (h : SzR mo M z v) (h1 : ¬ (v < M ∧ v < mo)) : z = v := by
  have hle := h.le.1
  obtain ⟨⟨i, j, f, hv, hm, hij, hj, hM, hz⟩, hl⟩ := h
  rw [hz]
  unfold minN
  by_cases c : v < M
  · have e : v = mo := by omega
    have h2 := szF_ge f v M
    split <;> omega
  · rw [szF_stop c]
    split <;> omega
section
variable {w w' : World} {p pn px : Nat} {s : Gr} {F Fn Fx : Nat → Prop}
set_option maxHeartbeats 4000000 in
theorem gbegin_any (h : PGY w p pn px s F Fn Fx) (hs : s.Ok) : Calls Tryz.prog 150 #[.pointer (some ⟨p, 0, none⟩)] w fun e w' => e = .returned (.tuple #[]) ∧ ∃ b G F', PGY w' p pn b ⟨s.now, Tb.new s.size, true, s.most, 0⟩ F' Fn G ∧ ExtG F F' w w' := by
  have HEN := Lib.hid fun W (k : Below w.heap.size w W) => tabP.entries (pt0_step h.now k) hs.now
  have HTN : Hid (∀ (q : Int) (n : Nat), q = (n : Int) → mayI (n : Int) = true → ∀ W, Calls Tryz.prog 64 #[.int .i64 q] W fun e w' => ∃ b G, e = .returned (.tuple #[.pointer (some ⟨b, 0, none⟩), .int .i64 0]) ∧ PT0 w' b (Tb.new n) G ∧ (∀ k, G k → W.heap.size ≤ k) ∧ Below W.heap.size W w') := Lib.hid fun q n e hn W => by
    subst e
    exact tabP.new n W hn
  have HFT : Hid (∀ {W : World} (b : Nat) (t : Tb) (G : Nat → Prop), PT0 W b t G → ∀ k, G k → k < W.heap.size) := Lib.hid fun b t G h => footPT0.old h
  have HY := Lib.hid h
  have HR0 := Lib.hid (SzR.start hs h.may)
  have HMY := Lib.hid h.may
  have HEL := Lib.hid (tent_le hs.now).1
  obtain ⟨mo, hmo⟩ : ∃ n, n = s.most := ⟨_, rfl⟩
  obtain ⟨M, hM⟩ : ∃ n, n = s.now.entries := ⟨_, rfl⟩
  obtain ⟨z, hz⟩ : ∃ n, n = s.size := ⟨_, rfl⟩
  obtain ⟨at_, hat⟩ : ∃ n, n = s.at_ := ⟨_, rfl⟩
  have HMO : Hid (mo = s.most) := Lib.hid hmo
  have HZ : Hid (s.size = z) := Lib.hid hz.symm
  have HQ : Hid (w.heap[p]? = some (.cells #[.int .i64 (mo : Int), .pointer (some ⟨pn, 0, none⟩), .pointer (if s.mv then some ⟨px, 0, none⟩ else none), .int .i64 (at_ : Int)] 131 (0, 0))) := Lib.hid (by rw [hmo, hat]; exact h.blk)
  rw [← hM] at HEN HEL
  rw [← hmo, ← hM, ← hz] at HR0
  rw [← hmo] at HMY
  clear h hs hmo hM hz hat
  go_enter Tryz.func150, Tryz.ntmps150
  go_wp2_with fail
  go_loopw [2] (fun vi wr => ∃ v : Nat, SzR mo (4 * M) z v ∧ vi = .int .i64 (v : Int) ∧ Below w.heap.size w wr) (fun vi _ => 262144 - (intOf vi).toNat)
  case atStart => exact ⟨16, HR0.out, rfl, Below.refl _ _⟩
  case round =>
    obtain ⟨v, hR, rfl, hbr⟩ := hrel
    have HR := Lib.hid hR
    have HBR := Lib.hid hbr
    have hle := hR.le
    have hlow := hR.low
    have HLE := Lib.hid hle
    have hv9 : v ≤ 262144 := by omega
    have hq := (hbr.block p (lt_heap HQ.out)).trans HQ.out
    have x1 : wr.cell? ⟨p, 1, none⟩ = some (.pointer (some ⟨pn, 0, none⟩)) := blk_cell hq 1
    have x0 : wr.cell? ⟨p, 0, none⟩ = some (.int .i64 (mo : Int)) := blk_cell hq 0
    have HEr := Lib.hid (HEN.out wr hbr)
    have hM9 := HEL.out
    have za : IntKind.i64.wrap (4 * (M : Int)) = 4 * (M : Int) := by rw [IntKind.wrap_i64]; omega
    have zb : IntKind.i64.wrap ((v : Int) * 2) = (v : Int) * 2 := by rw [IntKind.wrap_i64]; omega
    have zb2 : IntKind.i64.wrap (2 * (v : Int)) = 2 * (v : Int) := by rw [IntKind.wrap_i64]; omega
    clear hR hbr hq hle hlow
    by_cases c1 : v < 4 * M
    · have f1 : (v : Int) < 4 * (M : Int) := by omega
      by_cases c2 : v < mo
      · have f2 : (v : Int) < (mo : Int) := by omega
        have HON := Lib.hid (HR.out.on c1 c2)
        have HMX := Lib.hid hv9
        have HC2 := Lib.hid c2
        clear hv9 c1 c2 hM9
        go_wp2_with (first
          | (go_at_call 175
             refine HEr.out.mono ?_
             rintro e wr2 ⟨rfl, hb⟩
             have HB2 := Lib.hid (HBR.out.trans (hb.mono HBR.out.size))
             have x0 : wr2.cell? ⟨p, 0, none⟩ = some (.int .i64 (mo : Int)) := blk_cell ((HB2.out.block p (lt_heap HQ.out)).trans HQ.out) 0
             clear hb))
        go_roundw
        case rel => exact ⟨2 * v, HON.out, by go_num, HB2.out⟩
        case measure =>
          have h1 := HON.out.le
          have h2 := HR.out.low
          simp [intOf]
          omega
      · have f2 : ¬ (v : Int) < (mo : Int) := by omega
        have HSV : Hid (s.size = v) := Lib.hid (HZ.out.trans (HR.out.end_ fun q => c2 q.2))
        have HSZ := Lib.hid HLE.out.2.2
        clear hv9 c1 c2 hM9
        go_wp2_with (first
          | (go_at_call 175
             refine HEr.out.mono ?_
             rintro e wr2 ⟨rfl, hb⟩
             have HB2 := Lib.hid (HBR.out.trans (hb.mono HBR.out.size))
             have x0 : wr2.cell? ⟨p, 0, none⟩ = some (.int .i64 (mo : Int)) := blk_cell ((HB2.out.block p (lt_heap HQ.out)).trans HQ.out) 0
             clear hb))
        clear x0
        have HQr := Lib.hid ((HB2.out.block p (lt_heap HQ.out)).trans HQ.out)
        go_upto_region 3 with fail
        go_upto_region 4 with (first
          | (go_at_call 64
             refine (HTN.out (v : Int) v rfl HSZ.out wr2).mono ?_
             rintro e u ⟨b, G, rfl, hpt, hG, hb⟩
             have HPT := Lib.hid hpt
             have HG := Lib.hid hG
             have HB1 := Lib.hid hb
             have hq := (hb.block p (lt_heap HQr.out)).trans HQr.out
             have f2 := blk_free hq 2
             have x2 := blk_cell hq 2
             have HQu := Lib.hid hq
             clear hpt hG hb hq))
        have HQ2 : Hid ((u.setCell ⟨p, 2, none⟩ (.pointer (some ⟨b, 0, none⟩))).heap[p]? = some (.cells #[.int .i64 (mo : Int), .pointer (some ⟨pn, 0, none⟩), .pointer (some ⟨b, 0, none⟩), .int .i64 (at_ : Int)] 131 (0, 0))) := Lib.hid (blk_set HQu.out 2 _)
        have HK2 : Hid (Kept (fun k => k = p) u (u.setCell ⟨p, 2, none⟩ (.pointer (some ⟨b, 0, none⟩)))) := Lib.hid ((Kept.refl (fun k => k = p) u).setCell (p := ⟨p, 2, none⟩) (.inl rfl) _)
        clear f2 x2
        generalize u.setCell ⟨p, 2, none⟩ (.pointer (some ⟨b, 0, none⟩)) = u2 at *
        have f3 := blk_free HQ2.out 3
        have x3 := blk_cell HQ2.out 3
        go_wp2_with fail
        have HQ3 : Hid ((u2.setCell ⟨p, 3, none⟩ (.int .i64 0)).heap[p]? = some (.cells #[.int .i64 (mo : Int), .pointer (some ⟨pn, 0, none⟩), .pointer (some ⟨b, 0, none⟩), .int .i64 0] 131 (0, 0))) := Lib.hid (blk_set HQ2.out 3 _)
        have HK3 := Lib.hid (HK2.out.setCell (p := ⟨p, 3, none⟩) (.inl rfl) (.int .i64 0))
        clear f3 x3
        first
          | go_ret
          | go_end0
        refine ⟨rfl, b, G, (fun k => F k ∨ G k), ?_⟩
        have hpz := HG.out
        have hWr := HB1.out.size
        have hwr := HB2.out.size
        have hko : Kept (fun k => k = p) w (u2.setCell ⟨p, 3, none⟩ (.int .i64 0)) := ((Kept.of_below HB2.out (fun k => k = p)).trans (Kept.of_below HB1.out _) fun _ _ q => q).trans HK3.out fun _ _ q => q
        have hGl := HFT.out b (Tb.new v) G HPT.out
        have hz3 := HK3.out.size
        refine ⟨⟨?_, footPT0.keep HY.out.now hko fun k hk e => HY.out.apN (by rw [← show k = p from e]; exact hk), fun _ => ?_, .inl HY.out.mem, fun k hk => .inl (HY.out.subN k hk), fun _ k hk => .inr hk, HY.out.apN, fun _ => ⟨fun q => ?_, fun k hk hn => ?_⟩, fun k hk => ?_, by rw [← HMO.out]; exact HMY.out⟩, fun k hk => ?_, hko.mono fun k _ e => by rw [show k = p from e]; exact HY.out.mem⟩
        · rw [HQ3.out, HMO.out]
          rfl
        · rw [HSV.out]
          exact footPT0.keep HPT.out HK3.out fun k hk e => by
            have e : k = p := e
            have h1 := hpz k hk
            have h2 := HY.out.old p HY.out.mem
            omega
        · have h1 := hpz p q
          have h2 := HY.out.old p HY.out.mem
          omega
        · have h1 := hpz k hk
          have h2 := HY.out.old k (HY.out.subN k hn)
          omega
        · rcases hk with hk | hk
          · have h2 := HY.out.old k hk
            have := hko.size
            omega
          · have := hGl k hk
            omega
        · rcases hk with hk | hk
          · exact .inl hk
          · exact .inr ⟨by have := hpz k hk; omega, by have := hGl k hk; omega⟩
    · have f1 : ¬ (v : Int) < 4 * (M : Int) := by omega
      have HSV : Hid (s.size = v) := Lib.hid (HZ.out.trans (HR.out.end_ fun q => c1 q.1))
      have HSZ := Lib.hid HLE.out.2.2
      clear hv9 c1 hM9
      go_wp2_with (first
        | (go_at_call 175
           refine HEr.out.mono ?_
           rintro e wr2 ⟨rfl, hb⟩
           have HB2 := Lib.hid (HBR.out.trans (hb.mono HBR.out.size))
           have x0 : wr2.cell? ⟨p, 0, none⟩ = some (.int .i64 (mo : Int)) := blk_cell ((HB2.out.block p (lt_heap HQ.out)).trans HQ.out) 0
           clear hb))
      clear x0
      have HQr := Lib.hid ((HB2.out.block p (lt_heap HQ.out)).trans HQ.out)
      go_upto_region 3 with fail
      go_upto_region 4 with (first
        | (go_at_call 64
           refine (HTN.out (v : Int) v rfl HSZ.out wr2).mono ?_
           rintro e u ⟨b, G, rfl, hpt, hG, hb⟩
           have HPT := Lib.hid hpt
           have HG := Lib.hid hG
           have HB1 := Lib.hid hb
           have hq := (hb.block p (lt_heap HQr.out)).trans HQr.out
           have f2 := blk_free hq 2
           have x2 := blk_cell hq 2
           have HQu := Lib.hid hq
           clear hpt hG hb hq))
      have HQ2 : Hid ((u.setCell ⟨p, 2, none⟩ (.pointer (some ⟨b, 0, none⟩))).heap[p]? = some (.cells #[.int .i64 (mo : Int), .pointer (some ⟨pn, 0, none⟩), .pointer (some ⟨b, 0, none⟩), .int .i64 (at_ : Int)] 131 (0, 0))) := Lib.hid (blk_set HQu.out 2 _)
      have HK2 : Hid (Kept (fun k => k = p) u (u.setCell ⟨p, 2, none⟩ (.pointer (some ⟨b, 0, none⟩)))) := Lib.hid ((Kept.refl (fun k => k = p) u).setCell (p := ⟨p, 2, none⟩) (.inl rfl) _)
      clear f2 x2
      generalize u.setCell ⟨p, 2, none⟩ (.pointer (some ⟨b, 0, none⟩)) = u2 at *
      have f3 := blk_free HQ2.out 3
      have x3 := blk_cell HQ2.out 3
      go_wp2_with fail
      have HQ3 : Hid ((u2.setCell ⟨p, 3, none⟩ (.int .i64 0)).heap[p]? = some (.cells #[.int .i64 (mo : Int), .pointer (some ⟨pn, 0, none⟩), .pointer (some ⟨b, 0, none⟩), .int .i64 0] 131 (0, 0))) := Lib.hid (blk_set HQ2.out 3 _)
      have HK3 := Lib.hid (HK2.out.setCell (p := ⟨p, 3, none⟩) (.inl rfl) (.int .i64 0))
      clear f3 x3
      first
        | go_ret
        | go_end0
      refine ⟨rfl, b, G, (fun k => F k ∨ G k), ?_⟩
      have hpz := HG.out
      have hWr := HB1.out.size
      have hwr := HB2.out.size
      have hko : Kept (fun k => k = p) w (u2.setCell ⟨p, 3, none⟩ (.int .i64 0)) := ((Kept.of_below HB2.out (fun k => k = p)).trans (Kept.of_below HB1.out _) fun _ _ q => q).trans HK3.out fun _ _ q => q
      have hGl := HFT.out b (Tb.new v) G HPT.out
      have hz3 := HK3.out.size
      refine ⟨⟨?_, footPT0.keep HY.out.now hko fun k hk e => HY.out.apN (by rw [← show k = p from e]; exact hk), fun _ => ?_, .inl HY.out.mem, fun k hk => .inl (HY.out.subN k hk), fun _ k hk => .inr hk, HY.out.apN, fun _ => ⟨fun q => ?_, fun k hk hn => ?_⟩, fun k hk => ?_, by rw [← HMO.out]; exact HMY.out⟩, fun k hk => ?_, hko.mono fun k _ e => by rw [show k = p from e]; exact HY.out.mem⟩
      · rw [HQ3.out, HMO.out]
        rfl
      · rw [HSV.out]
        exact footPT0.keep HPT.out HK3.out fun k hk e => by
          have e : k = p := e
          have h1 := hpz k hk
          have h2 := HY.out.old p HY.out.mem
          omega
      · have h1 := hpz p q
        have h2 := HY.out.old p HY.out.mem
        omega
      · have h1 := hpz k hk
        have h2 := HY.out.old k (HY.out.subN k hn)
        omega
      · rcases hk with hk | hk
        · have h2 := HY.out.old k hk
          have := hko.size
          omega
        · have := hGl k hk
          omega
      · rcases hk with hk | hk
        · exact .inl hk
        · exact .inr ⟨by have := hpz k hk; omega, by have := hGl k hk; omega⟩
end
end Go.Proofs.YtimcdnbfdkpffaaGreat
/- Stage 14: the landed growing table: Put. -/
namespace Go.Proofs.YtimcdnbfdkpffaaGreat
set_option maxRecDepth 100000
open Go.RowKit Go.Shelf
section
variable {w w' : World} {p pn px : Nat} {s : Gr} {F Fn Fx : Nat → Prop}
set_option maxHeartbeats 4000000 in
theorem gput_any (h : PGY w p pn px s F Fn Fx) (hs : s.Ok) (H X : Nat) (hH : H < 18446744073709551616) (hX : X < 4294967296) : Calls Tryz.prog 98 #[.pointer (some ⟨p, 0, none⟩), .agg #[.int .u64 (H : Int), .int .u32 (X : Int)]] w fun e w' => e = .returned (.int .i64 (s.ptE H)) ∧ ∃ F', PG0 w' p (s.pt H X) F' ∧ ExtG F F' w w' := by
  have HHH := Lib.hid hH
  have HXX := Lib.hid hX
  have HS := Lib.hid hs
  have HB0 : Hid (Below w.heap.size w (w.alloc (.cells #[.int .u64 (H : Int), .int .u32 (X : Int)] 99))) := Lib.hid (below_alloc w _)
  have HE0 : Hid ((w.alloc (.cells #[.int .u64 (H : Int), .int .u32 (X : Int)] 99)).heap[w.heap.size]? = some (.cells #[.int .u64 (H : Int), .int .u32 (X : Int)] 99 (0, 0))) := Lib.hid (heap_alloc_new w _)
  have HY0 := Lib.hid (h.step HB0.out)
  have HNF : Hid (¬ F w.heap.size) := Lib.hid fun q => by
    have := h.old _ q
    omega
  have HPT : Hid (s.pt H X = if s.begun.full then s.begun else s.begun.laid H X) := Lib.hid rfl
  obtain ⟨EE0, hEE0⟩ : ∃ E, E = s.ptE H := ⟨_, rfl⟩
  have HPEq : Hid (EE0 = if s.begun.full then 9 else s.begun.tgt.ptE H) := Lib.hid hEE0
  rw [← hEE0]
  have HO1 := Lib.hid (Gr.ok_begun hs)
  obtain ⟨b3, hr⟩ : ∃ r, r = w.heap.size := ⟨_, rfl⟩
  rw [← hr] at HE0 HNF
  clear h hs hH hX hEE0
  go_enter Tryz.func98, Tryz.ntmps98
  go_upto_region 1 with fail
  change Code.wp _ _ _ _ (w.alloc (.cells #[.int .u64 (H : Int), .int .u32 (X : Int)] 99))
  rw [← hr]
  clear hr
  generalize (w.alloc (.cells #[.int .u64 (H : Int), .int .u32 (X : Int)] 99)) = u0 at *
  obtain ⟨s1, hs1⟩ : ∃ s1, s1 = s.begun := ⟨_, rfl⟩
  have HS1 := Lib.hid hs1
  rw [← hs1] at HPT HPEq HO1
  clear hs1
  have HMD := Lib.hid fun W (k : Below u0.heap.size u0 W) => (HY0.out.step k).made
  have HWA := Lib.hid fun W (k : Below u0.heap.size u0 W) => gwants_any (HY0.out.step k) HS.out
  have HBG := Lib.hid fun W (k : Below u0.heap.size u0 W) => gbegin_any (HY0.out.step k) HS.out
  cases hb : s.begs with
  | true =>
    rw [hb] at HWA
    have HB1 : Hid (s1 = ⟨s.now, Tb.new s.size, true, s.most, 0⟩) := Lib.hid (by rw [HS1.out]; unfold Gr.begun; rw [if_pos hb])
    clear hb
    go_upto_region 5 with (first
      | (go_at_call 84
         refine (HMD.out u0 (Below.refl _ _)).mono ?_
         rintro e u1 ⟨rfl, hb⟩
         have HU1 := Lib.hid hb
         clear hb)
      | (go_at_call 149
         refine (HWA.out u1 HU1.out).mono ?_
         rintro e u2 ⟨rfl, hb⟩
         have HU2 := Lib.hid (HU1.out.trans (hb.mono HU1.out.size))
         clear hb)
      | (go_at_call 150
         refine (HBG.out u2 HU2.out).mono ?_
         rintro e u3 ⟨rfl, px1, Fx1, F1, hp, hx⟩
         have HY1 : Hid (PGY u3 p pn px1 s1 F1 Fn Fx1) := Lib.hid (by rw [HB1.out]; exact hp)
         have HX1 : Hid (ExtG F F1 w u3) := Lib.hid ((ExtG.of_below (HB0.out.trans (HU2.out.mono HB0.out.size))).trans hx)
         have HE1 : Hid (u3.heap[b3]? = some (.cells #[.int .u64 (H : Int), .int .u32 (X : Int)] 99 (0, 0))) := Lib.hid ((hx.kept.block b3 (Nat.lt_of_lt_of_le (lt_heap HE0.out) HU2.out.size) HNF.out).trans ((HU2.out.block b3 (lt_heap HE0.out)).trans HE0.out))
         clear hp hx))
    clear HMD HWA HBG HY0 HU1 HU2 HE0
    have HRO := Lib.hid fun W (k : Below u3.heap.size u3 W) => groomy_any (HY1.out.step k) HO1.out
    cases hf : s1.full with
    | true =>
      have HFU := Lib.hid hf
      rw [hf] at HRO
      clear hf
      have HPE : Hid (EE0 = 9) := Lib.hid (by rw [HPEq.out, HFU.out, if_pos rfl])
      go_wp2_with (first
        | (go_at_call 151
           refine (HRO.out u3 (Below.refl _ _)).mono ?_
           rintro e v1 ⟨rfl, hb⟩
           have HV1 := Lib.hid hb
           clear hb))
      go_ret
      have e : s.pt H X = s1 := by rw [HPT.out, HFU.out, if_pos rfl]
      rw [e]
      exact ⟨by rw [HPE.out]; rfl, _, ⟨pn, _, _, _, HY1.out.step HV1.out⟩, HX1.out.trans (ExtG.of_below HV1.out)⟩
    | false =>
      have HFU := Lib.hid hf
      rw [hf] at HRO
      clear hf
      cases hm : s1.mv with
      | true =>
        have x1 : u3.cell? ⟨p, 1, none⟩ = some (.pointer (some ⟨pn, 0, none⟩)) := blk_cell HY1.out.blk 1
        have HMV := Lib.hid hm
        have HMO := Lib.hid fun W (k : Below u3.heap.size u3 W) => (HY1.out.step k).moves
        rw [hm] at HMO
        clear hm
        go_upto_region 10 with (first
          | (go_at_call 151
             refine (HRO.out u3 (Below.refl _ _)).mono ?_
             rintro e v1 ⟨rfl, hb⟩
             have HV1 := Lib.hid hb
             have x1 : v1.cell? ⟨p, 1, none⟩ = some (.pointer (some ⟨pn, 0, none⟩)) := blk_cell (HY1.out.step hb).blk 1
             clear hb)
          | (go_at_call 99
             refine (HMO.out v1 HV1.out).mono ?_
             rintro e v2 ⟨rfl, hb⟩
             have HV2 := Lib.hid (HV1.out.trans (hb.mono HV1.out.size))
             have hq := (HY1.out.step HV2.out).blk
             rw [HMV.out, if_pos rfl] at hq
             have x2 : v2.cell? ⟨p, 2, none⟩ = some (.pointer (some ⟨px1, 0, none⟩)) := blk_cell hq 2
             clear hb hq x1))
        clear x2
        have HY2 := Lib.hid (HY1.out.step HV2.out)
        have HX2 := Lib.hid (HX1.out.trans (ExtG.of_below HV2.out))
        have HE2 := Lib.hid ((HV2.out.block b3 (lt_heap HE1.out)).trans HE1.out)
        clear HY1 HX1 HE1 HV1 HV2 HRO HMO
        have r0 : v2.cell? ⟨b3, 0, none⟩ = some (.int .u64 (H : Int)) := blk_cell HE2.out 0
        have r1 : v2.cell? ⟨b3, 1, none⟩ = some (.int .u32 (X : Int)) := blk_cell HE2.out 1
        have HPP := Lib.hid (tabP.put (HY2.out.next HMV.out) (HO1.out.next HMV.out) H X HHH.out HXX.out)
        have HPE : Hid (EE0 = s1.next.ptE H) := Lib.hid (by rw [HPEq.out, HFU.out, if_neg Bool.false_ne_true]; unfold Gr.tgt; rw [HMV.out]; rfl)
        obtain ⟨EI, hEI⟩ : ∃ E, E = s1.next.ptI H := ⟨_, rfl⟩
        rw [← hEI, ← HPE.out] at HPP
        clear hEI
        go_wp2_with (first
          | (go_at_call 101
             refine HPP.out.mono ?_
             rintro e v3 ⟨rfl, G, ha, hx⟩
             have HA := Lib.hid ha
             have HXX3 := Lib.hid hx
             clear ha hx))
        go_ret
        have h1 := HY2.out.setX HMV.out HA.out HXX3.out
        have e : s.pt H X = ⟨s1.now, s1.next.pt H X, true, s1.most, s1.at_⟩ := by
          rw [HPT.out, HFU.out, if_neg Bool.false_ne_true]
          unfold Gr.laid
          rw [HMV.out]
          rfl
        rw [e]
        exact ⟨rfl, _, ⟨pn, _, _, _, h1.1⟩, HX2.out.trans h1.2⟩
      | false =>
        have x1 : u3.cell? ⟨p, 1, none⟩ = some (.pointer (some ⟨pn, 0, none⟩)) := blk_cell HY1.out.blk 1
        have HMV := Lib.hid hm
        have HMO := Lib.hid fun W (k : Below u3.heap.size u3 W) => (HY1.out.step k).moves
        rw [hm] at HMO
        clear hm
        go_upto_region 10 with (first
          | (go_at_call 151
             refine (HRO.out u3 (Below.refl _ _)).mono ?_
             rintro e v1 ⟨rfl, hb⟩
             have HV1 := Lib.hid hb
             have x1 : v1.cell? ⟨p, 1, none⟩ = some (.pointer (some ⟨pn, 0, none⟩)) := blk_cell (HY1.out.step hb).blk 1
             clear hb)
          | (go_at_call 99
             refine (HMO.out v1 HV1.out).mono ?_
             rintro e v2 ⟨rfl, hb⟩
             have HV2 := Lib.hid (HV1.out.trans (hb.mono HV1.out.size))
             clear hb x1))
        have HY2 := Lib.hid (HY1.out.step HV2.out)
        have HX2 := Lib.hid (HX1.out.trans (ExtG.of_below HV2.out))
        have HE2 := Lib.hid ((HV2.out.block b3 (lt_heap HE1.out)).trans HE1.out)
        clear HY1 HX1 HE1 HV1 HV2 HRO HMO
        have r0 : v2.cell? ⟨b3, 0, none⟩ = some (.int .u64 (H : Int)) := blk_cell HE2.out 0
        have r1 : v2.cell? ⟨b3, 1, none⟩ = some (.int .u32 (X : Int)) := blk_cell HE2.out 1
        have HPP := Lib.hid (tabP.put (HY2.out.now) (HO1.out.now) H X HHH.out HXX.out)
        have HPE : Hid (EE0 = s1.now.ptE H) := Lib.hid (by rw [HPEq.out, HFU.out, if_neg Bool.false_ne_true]; unfold Gr.tgt; rw [HMV.out]; rfl)
        obtain ⟨EI, hEI⟩ : ∃ E, E = s1.now.ptI H := ⟨_, rfl⟩
        rw [← hEI, ← HPE.out] at HPP
        clear hEI
        go_wp2_with (first
          | (go_at_call 101
             refine HPP.out.mono ?_
             rintro e v3 ⟨rfl, G, ha, hx⟩
             have HA := Lib.hid ha
             have HXX3 := Lib.hid hx
             clear ha hx))
        go_ret
        have h1 := HY2.out.setN HA.out HXX3.out
        have e : s.pt H X = ⟨s1.now.pt H X, s1.next, s1.mv, s1.most, s1.at_⟩ := by
          rw [HPT.out, HFU.out, if_neg Bool.false_ne_true]
          unfold Gr.laid
          rw [HMV.out]
          rfl
        rw [e]
        exact ⟨rfl, _, ⟨pn, _, _, _, h1.1⟩, HX2.out.trans h1.2⟩
  | false =>
    rw [hb] at HWA
    have HB1 : Hid (s1 = s) := Lib.hid (by rw [HS1.out]; unfold Gr.begun; rw [if_neg (by rw [hb]; exact Bool.false_ne_true)])
    clear hb
    go_upto_region 5 with (first
      | (go_at_call 84
         refine (HMD.out u0 (Below.refl _ _)).mono ?_
         rintro e u1 ⟨rfl, hb⟩
         have HU1 := Lib.hid hb
         clear hb)
      | (go_at_call 149
         refine (HWA.out u1 HU1.out).mono ?_
         rintro e u2 ⟨rfl, hb⟩
         have HU2 := Lib.hid (HU1.out.trans (hb.mono HU1.out.size))
         clear hb))
    obtain ⟨px1, hpx⟩ : ∃ x, x = px := ⟨_, rfl⟩
    have HY1 : Hid (PGY u2 p pn px1 s1 F Fn Fx) := Lib.hid (by rw [HB1.out, hpx]; exact HY0.out.step HU2.out)
    have HX1 : Hid (ExtG F F w u2) := Lib.hid (ExtG.of_below (HB0.out.trans (HU2.out.mono HB0.out.size)))
    have HE1 : Hid (u2.heap[b3]? = some (.cells #[.int .u64 (H : Int), .int .u32 (X : Int)] 99 (0, 0))) := Lib.hid ((HU2.out.block b3 (lt_heap HE0.out)).trans HE0.out)
    clear HMD HWA HBG HY0 HU1 HU2 HE0 hpx
    have HRO := Lib.hid fun W (k : Below u2.heap.size u2 W) => groomy_any (HY1.out.step k) HO1.out
    cases hf : s1.full with
    | true =>
      have HFU := Lib.hid hf
      rw [hf] at HRO
      clear hf
      have HPE : Hid (EE0 = 9) := Lib.hid (by rw [HPEq.out, HFU.out, if_pos rfl])
      go_wp2_with (first
        | (go_at_call 151
           refine (HRO.out u2 (Below.refl _ _)).mono ?_
           rintro e v1 ⟨rfl, hb⟩
           have HV1 := Lib.hid hb
           clear hb))
      go_ret
      have e : s.pt H X = s1 := by rw [HPT.out, HFU.out, if_pos rfl]
      rw [e]
      exact ⟨by rw [HPE.out]; rfl, _, ⟨pn, _, _, _, HY1.out.step HV1.out⟩, HX1.out.trans (ExtG.of_below HV1.out)⟩
    | false =>
      have HFU := Lib.hid hf
      rw [hf] at HRO
      clear hf
      cases hm : s1.mv with
      | true =>
        have x1 : u2.cell? ⟨p, 1, none⟩ = some (.pointer (some ⟨pn, 0, none⟩)) := blk_cell HY1.out.blk 1
        have HMV := Lib.hid hm
        have HMO := Lib.hid fun W (k : Below u2.heap.size u2 W) => (HY1.out.step k).moves
        rw [hm] at HMO
        clear hm
        go_upto_region 10 with (first
          | (go_at_call 151
             refine (HRO.out u2 (Below.refl _ _)).mono ?_
             rintro e v1 ⟨rfl, hb⟩
             have HV1 := Lib.hid hb
             have x1 : v1.cell? ⟨p, 1, none⟩ = some (.pointer (some ⟨pn, 0, none⟩)) := blk_cell (HY1.out.step hb).blk 1
             clear hb)
          | (go_at_call 99
             refine (HMO.out v1 HV1.out).mono ?_
             rintro e v2 ⟨rfl, hb⟩
             have HV2 := Lib.hid (HV1.out.trans (hb.mono HV1.out.size))
             have hq := (HY1.out.step HV2.out).blk
             rw [HMV.out, if_pos rfl] at hq
             have x2 : v2.cell? ⟨p, 2, none⟩ = some (.pointer (some ⟨px1, 0, none⟩)) := blk_cell hq 2
             clear hb hq x1))
        clear x2
        have HY2 := Lib.hid (HY1.out.step HV2.out)
        have HX2 := Lib.hid (HX1.out.trans (ExtG.of_below HV2.out))
        have HE2 := Lib.hid ((HV2.out.block b3 (lt_heap HE1.out)).trans HE1.out)
        clear HY1 HX1 HE1 HV1 HV2 HRO HMO
        have r0 : v2.cell? ⟨b3, 0, none⟩ = some (.int .u64 (H : Int)) := blk_cell HE2.out 0
        have r1 : v2.cell? ⟨b3, 1, none⟩ = some (.int .u32 (X : Int)) := blk_cell HE2.out 1
        have HPP := Lib.hid (tabP.put (HY2.out.next HMV.out) (HO1.out.next HMV.out) H X HHH.out HXX.out)
        have HPE : Hid (EE0 = s1.next.ptE H) := Lib.hid (by rw [HPEq.out, HFU.out, if_neg Bool.false_ne_true]; unfold Gr.tgt; rw [HMV.out]; rfl)
        obtain ⟨EI, hEI⟩ : ∃ E, E = s1.next.ptI H := ⟨_, rfl⟩
        rw [← hEI, ← HPE.out] at HPP
        clear hEI
        go_wp2_with (first
          | (go_at_call 101
             refine HPP.out.mono ?_
             rintro e v3 ⟨rfl, G, ha, hx⟩
             have HA := Lib.hid ha
             have HXX3 := Lib.hid hx
             clear ha hx))
        go_ret
        have h1 := HY2.out.setX HMV.out HA.out HXX3.out
        have e : s.pt H X = ⟨s1.now, s1.next.pt H X, true, s1.most, s1.at_⟩ := by
          rw [HPT.out, HFU.out, if_neg Bool.false_ne_true]
          unfold Gr.laid
          rw [HMV.out]
          rfl
        rw [e]
        exact ⟨rfl, _, ⟨pn, _, _, _, h1.1⟩, HX2.out.trans h1.2⟩
      | false =>
        have x1 : u2.cell? ⟨p, 1, none⟩ = some (.pointer (some ⟨pn, 0, none⟩)) := blk_cell HY1.out.blk 1
        have HMV := Lib.hid hm
        have HMO := Lib.hid fun W (k : Below u2.heap.size u2 W) => (HY1.out.step k).moves
        rw [hm] at HMO
        clear hm
        go_upto_region 10 with (first
          | (go_at_call 151
             refine (HRO.out u2 (Below.refl _ _)).mono ?_
             rintro e v1 ⟨rfl, hb⟩
             have HV1 := Lib.hid hb
             have x1 : v1.cell? ⟨p, 1, none⟩ = some (.pointer (some ⟨pn, 0, none⟩)) := blk_cell (HY1.out.step hb).blk 1
             clear hb)
          | (go_at_call 99
             refine (HMO.out v1 HV1.out).mono ?_
             rintro e v2 ⟨rfl, hb⟩
             have HV2 := Lib.hid (HV1.out.trans (hb.mono HV1.out.size))
             clear hb x1))
        have HY2 := Lib.hid (HY1.out.step HV2.out)
        have HX2 := Lib.hid (HX1.out.trans (ExtG.of_below HV2.out))
        have HE2 := Lib.hid ((HV2.out.block b3 (lt_heap HE1.out)).trans HE1.out)
        clear HY1 HX1 HE1 HV1 HV2 HRO HMO
        have r0 : v2.cell? ⟨b3, 0, none⟩ = some (.int .u64 (H : Int)) := blk_cell HE2.out 0
        have r1 : v2.cell? ⟨b3, 1, none⟩ = some (.int .u32 (X : Int)) := blk_cell HE2.out 1
        have HPP := Lib.hid (tabP.put (HY2.out.now) (HO1.out.now) H X HHH.out HXX.out)
        have HPE : Hid (EE0 = s1.now.ptE H) := Lib.hid (by rw [HPEq.out, HFU.out, if_neg Bool.false_ne_true]; unfold Gr.tgt; rw [HMV.out]; rfl)
        obtain ⟨EI, hEI⟩ : ∃ E, E = s1.now.ptI H := ⟨_, rfl⟩
        rw [← hEI, ← HPE.out] at HPP
        clear hEI
        go_wp2_with (first
          | (go_at_call 101
             refine HPP.out.mono ?_
             rintro e v3 ⟨rfl, G, ha, hx⟩
             have HA := Lib.hid ha
             have HXX3 := Lib.hid hx
             clear ha hx))
        go_ret
        have h1 := HY2.out.setN HA.out HXX3.out
        have e : s.pt H X = ⟨s1.now.pt H X, s1.next, s1.mv, s1.most, s1.at_⟩ := by
          rw [HPT.out, HFU.out, if_neg Bool.false_ne_true]
          unfold Gr.laid
          rw [HMV.out]
          rfl
        rw [e]
        exact ⟨rfl, _, ⟨pn, _, _, _, h1.1⟩, HX2.out.trans h1.2⟩
end
end Go.Proofs.YtimcdnbfdkpffaaGreat
