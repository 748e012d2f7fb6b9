/- Stage 19: the document's Table. -/
import Derived.Test.YtfchmmojhfjibaaMgf
namespace Go.Proofs.Ytfchmmojhfjibaa
set_option maxRecDepth 100000
open Go.RowKit Go.Shelf
theorem tab_step {l : List Wt} {m : Nat} (hm : szP (m : Int) = true) {i T k w : Nat} (hi : i < m) (hk : k < (ordL l).length) (hw : w < (wa l (oa (ordL l) k)).w.toNat) (e : i = T * (wsL l (ordL l)).sum + preW (wsL l (ordL l)) k + w) :
    ∃ j, j < m ∧ tabN l m i (slN (qL l (ordL l) m k).1 (qL l (ordL l) m k).2 m j) < 0 ∧ (∀ x, x < j → ¬ tabN l m i (slN (qL l (ordL l) m k).1 (qL l (ordL l) m k).2 m x) < 0) ∧
      ∀ s, tabN l m (i + 1) s = if s = slN (qL l (ordL l) m k).1 (qL l (ordL l) m k).2 m j then (oa (ordL l) k : Int) else tabN l m i s := by
  have hc : whoN (wsL l (ordL l)) i = k := by
    rw [e]
    exact whoN_at (by rw [wsL_len]; exact hk) (by rw [wsL_at l hk]; exact hw)
  have hq := qL_ok (l := l) hm (ordL l)
  obtain ⟨h1, h2, h3⟩ := tk_next hq (tk_all hq (whoN (wsL l (ordL l))) i (by omega)) hi k
  refine ⟨_, h1, ?_, fun x hx => ?_, fun s => ?_⟩
  · unfold tabN
    rw [liftO_lt]
    have : tkT (qL l (ordL l) m) m (whoN (wsL l (ordL l))) i (tkS (qL l (ordL l) m) m k (tkT (qL l (ordL l) m) m (whoN (wsL l (ordL l))) i)) < 0 := by rw [h2]; decide
    exact this
  · unfold tabN
    rw [liftO_lt]
    exact h3 x hx
  · unfold tabN
    show liftO (ordL l) (if s = tkS (qL l (ordL l) m) m (whoN (wsL l (ordL l)) i) (tkT (qL l (ordL l) m) m (whoN (wsL l (ordL l))) i) then ((whoN (wsL l (ordL l)) i : Nat) : Int) else tkT (qL l (ordL l) m) m (whoN (wsL l (ordL l))) i s) = _
    rw [hc]
    show liftO (ordL l) (if s = tkS (qL l (ordL l) m) m k (tkT (qL l (ordL l) m) m (whoN (wsL l (ordL l))) i) then ((k : Nat) : Int) else tkT (qL l (ordL l) m) m (whoN (wsL l (ordL l))) i s) = if s = tkS (qL l (ordL l) m) m k (tkT (qL l (ordL l) m) m (whoN (wsL l (ordL l))) i) then (oa (ordL l) k : Int) else liftO (ordL l) (tkT (qL l (ordL l) m) m (whoN (wsL l (ordL l))) i s)
    by_cases q : s = tkS (qL l (ordL l) m) m k (tkT (qL l (ordL l) m) m (whoN (wsL l (ordL l))) i)
    · rw [if_pos q, if_pos q, liftO_pos]
    · rw [if_neg q, if_neg q]
/-- What lies in memory while the table is made: the table t, the order, the rows of the first k. -/
structure TbM (l : List Wt) (m : Nat) (w : World) (gt gr B0 : Nat) (Ao : Option Addr) (co : Nat) (R : Nat → Value) (u : World) (t : Nat → Int) (k : Nat) : Prop where
  tab : OwnC u gt 3 1 (some ⟨gt, 0, none⟩) m m (iV t)
  ord : OwnC u (gt + 1) 3 1 Ao (ordL l).length co (oV (ordL l))
  rows : OwnC u gr 23 1 (some ⟨gr, 0, none⟩) l.length l.length R
  row : ∀ j, j < k → ∃ G d, R (oa (ordL l) j) = .slice G m d ∧ OwnC u B0 3 1 G m d (sf (qL l (ordL l) m j).1 (qL l (ordL l) m j).2 m)
  lo : w.heap.size ≤ gt ∧ gt < gr ∧ gr < B0 ∧ B0 ≤ u.heap.size
  bel : Below w.heap.size w u
  olt : ∀ g, Ao = some ⟨g, 0, none⟩ → g < gr
section
variable {l : List Wt} {m : Nat} {w : World} {gt gr B0 : Nat} {Ao : Option Addr} {co : Nat} {R : Nat → Value} {u : World} {t : Nat → Int} {k : Nat}
theorem TbM.step (h : TbM l m w gt gr B0 Ao co R u t k) {u' : World} (hb : Below u.heap.size u u') : TbM l m w gt gr B0 Ao co R u' t k :=
  ⟨h.tab.below hb, h.ord.below hb, h.rows.below hb, fun j hj => by
    obtain ⟨G, d, e, ho⟩ := h.row j hj
    exact ⟨G, d, e, ho.below hb⟩, ⟨h.lo.1, h.lo.2.1, h.lo.2.2.1, Nat.le_trans h.lo.2.2.2 hb.size⟩, h.bel.trans (hb.mono h.bel.size), h.olt⟩
theorem TbM.setT (h : TbM l m w gt gr B0 Ao co R u t k) (s : Nat) (v : Int) {t' : Nat → Int} (ht : ∀ j, t' j = if j = s then v else t j) : TbM l m w gt gr B0 Ao co R (u.setCell ⟨gt, s, none⟩ (.int .i64 v)) t' k :=
  ⟨(h.tab.set_ s (.int .i64 v)).same fun j _ => by
      unfold updV iV
      rw [ht]
      split <;> rfl, h.ord.far (p := ⟨gt, s, none⟩) (by show gt < gt + 1; omega) _, h.rows.far (p := ⟨gt, s, none⟩) h.lo.2.1 _, fun j hj => by
    obtain ⟨G, d, e, ho⟩ := h.row j hj
    exact ⟨G, d, e, ho.far (p := ⟨gt, s, none⟩) (by have := h.lo; show gt < B0; omega) _⟩, ⟨h.lo.1, h.lo.2.1, h.lo.2.2.1, by rw [World.size_setCell]; exact h.lo.2.2.2⟩, h.bel.setCell (p := ⟨gt, s, none⟩) h.lo.1 _, h.olt⟩
theorem TbM.setR (h : TbM l m w gt gr B0 Ao co R u t k) (hk : k < (ordL l).length) {G : Option Addr} {d : Nat} (ho : OwnC u B0 3 1 G m d (sf (qL l (ordL l) m k).1 (qL l (ordL l) m k).2 m)) :
    TbM l m w gt gr B0 Ao co (updV R (oa (ordL l) k) (.slice G m d)) (u.setCell ⟨gr, oa (ordL l) k, none⟩ (.slice G m d)) t (k + 1) :=
  ⟨h.tab.beside gr (fun g e => by injection e with e; injection e with e; have := h.lo; omega) fun j hj => Below.heap_setCell u ⟨gr, oa (ordL l) k, none⟩ _ j (fun e => hj e),
   h.ord.beside gr (fun g e => by have := h.olt g e; omega) fun j hj => Below.heap_setCell u ⟨gr, oa (ordL l) k, none⟩ _ j (fun e => hj e),
   h.rows.set_ _ _, fun j hj => by
    rcases (show j < k ∨ j = k by omega) with q | rfl
    · obtain ⟨G', d', e, ho'⟩ := h.row j q
      refine ⟨G', d', ?_, ho'.far (p := ⟨gr, oa (ordL l) k, none⟩) h.lo.2.2.1 _⟩
      unfold updV
      rw [if_neg fun e' => by have := ordL_inj (by omega) hk e'; omega]
      exact e
    · refine ⟨G, d, ?_, ho.far (p := ⟨gr, oa (ordL l) j, none⟩) h.lo.2.2.1 _⟩
      unfold updV
      rw [if_pos rfl], ⟨h.lo.1, h.lo.2.1, h.lo.2.2.1, by rw [World.size_setCell]; exact h.lo.2.2.2⟩, h.bel.setCell (p := ⟨gr, oa (ordL l) k, none⟩) (by have := h.lo; show w.heap.size ≤ gr; omega) _, h.olt⟩
end
theorem Try.infoRT : (Try.prog.info? 23).map (fun i => (i.zero, i.size, i.bytes)) = some (some (.slice none 0 0), 1, 24) := by kernel_rfl
theorem made_r (w : World) (n : Nat) (hn : n ≤ 1000000) : ∃ w', (Instr.makeSlice 48 (.int .i64 (n : Int)) (.int .i64 (n : Int))).run Try.prog w = .ok (.slice (some ⟨w.heap.size, 0, none⟩) n n) w' ∧ OwnC w' w.heap.size 23 1 (some ⟨w.heap.size, 0, none⟩) n n (fun _ => .slice none 0 0) ∧ w.grownBy w' none := by
  obtain ⟨i0, hi0, hz0, hz1, hz2⟩ := info_parts Try.infoRT
  exact run_make_vals (P := Try.prog) w w.heap.size 48 23 i0 (.slice none 0 0) Try.underlying48 hi0 hz0 hz1 rfl n (by rw [hz2]; omega) (by unfold maxLen; omega) (Nat.le_refl _)
set_option maxHeartbeats 4000000 in
theorem rtable_own (l : List Wt) (m : Nat) (ok : OkL l (m : Int)) (A : Option Addr) (c : Nat) (w : World) (h : Lw w w.heap.size A c l) : Calls Try.prog 17 #[.slice A l.length c, .int .i64 (m : Int)] w fun e w2 => ∃ g c2, e = .returned (.slice (some ⟨g, 0, none⟩) m c2) ∧ OwnC w2 w.heap.size 3 1 (some ⟨g, 0, none⟩) m c2 (iV (tabV l m)) ∧ Below w.heap.size w w2 := by
  have HL := Lib.hid h
  have HSZ := Lib.hid ok.sz
  have hz := szP_le ok.sz
  have hm7 : 7 ≤ m := hz.1
  have hm9 : m ≤ 65537 := hz.2.1
  have hn9 : l.length ≤ 100000 := h.few
  have HOF : Hid (∀ k W, k < (ordL l).length → Calls Try.prog 29 #[.string (wa l (oa (ordL l) k)).s, .int .i64 (m : Int)] W (ret (.tuple #[.agg #[.int .i64 ((qL l (ordL l) m k).1 : Int), .int .i64 ((qL l (ordL l) m k).2 : Int), .int .i64 (m : Int)], .int .i64 0]) W)) := Lib.hid fun k W hk => by
    have q := rof_any (wa l (oa (ordL l) k)).s.size (strF (wa l (oa (ordL l) k)).s) (strF_byt _) (by have := (ok.one _ (ordL_lt hk).1).2.1; omega) (m : Int) W
    rw [strF_eq] at q
    have e1 : peV (wa l (oa (ordL l) k)).s.size (strF (wa l (oa (ordL l) k)).s) (m : Int) = #[.int .i64 ((qL l (ordL l) m k).1 : Int), .int .i64 ((qL l (ordL l) m k).2 : Int), .int .i64 (m : Int)] := by
      unfold peV
      rw [if_pos HSZ.out, Int.toNat_natCast]
      rfl
    have e2 : peE (m : Int) = 0 := by unfold peE; rw [if_pos HSZ.out]
    rw [e1, e2] at q
    exact q
  have HSS : Hid (∀ k W, k < (ordL l).length → Calls Try.prog 30 #[.agg #[.int .i64 ((qL l (ordL l) m k).1 : Int), .int .i64 ((qL l (ordL l) m k).2 : Int), .int .i64 (m : Int)]] W fun e w' => ∃ g, e = .returned (.slice (some ⟨g, 0, none⟩) m m) ∧ OwnC w' W.heap.size 3 1 (some ⟨g, 0, none⟩) m m (sf (qL l (ordL l) m k).1 (qL l (ordL l) m k).2 m) ∧ Below W.heap.size W w') := Lib.hid fun k W hk =>
    rslots_yes (p := ⟨((qL l (ordL l) m k).1 : Int), ((qL l (ordL l) m k).2 : Int), (m : Int)⟩) ⟨rfl, rfl, rfl, HSZ.out, Nat.mod_lt _ (by omega), ((qL_ok (l := l) HSZ.out (ordL l)).2.2 k).1, ((qL_ok (l := l) HSZ.out (ordL l)).2.2 k).2⟩ W
  have HOR : Hid (∀ W, Below w.heap.size w W → Calls Try.prog 12 #[.slice A l.length c] W fun e w' => ∃ A2 c2, e = .returned (.slice A2 (ordL l).length c2) ∧ OwnC w' W.heap.size 3 1 A2 (ordL l).length c2 (oV (ordL l)) ∧ Below W.heap.size W w') := Lib.hid fun W hb => rorder_any l A c W ((HL.out.keep hb).more hb.size)
  have HST := Lib.hid fun i T k v => tab_step (l := l) HSZ.out (i := i) (T := T) (k := k) (w := v)
  have HOL := Lib.hid fun k => ordL_lt (l := l) (k := k)
  have HOW : Hid (∀ i, i < l.length → 0 ≤ (wa l i).w ∧ (wa l i).w ≤ 100) := Lib.hid fun i hi => (ok.one i hi).2.2
  have HLN : Hid ((ordL l).length ≤ l.length) := Lib.hid (ordN_len l _)
  obtain ⟨u1, hmk, ho, hg⟩ := made_i w m (by omega)
  have HO := Lib.hid ho
  have HB : Hid (Below w.heap.size w u1) := Lib.hid ((Below.refl _ _).grown hg (Nat.le_refl _) fun _ h => nomatch h)
  obtain ⟨gt, hgt⟩ : ∃ gt, gt = w.heap.size := ⟨_, rfl⟩
  rw [← hgt] at hmk HO
  have HGT := Lib.hid hgt
  obtain ⟨n, hn⟩ : ∃ n, n = l.length := ⟨_, rfl⟩
  have HNN := Lib.hid hn
  rw [← hn] at HOR HLN hn9 ⊢
  clear hgt ho hg h ok hz hn
  go_enter Try.func17, Try.ntmps17
  go_wp2_with fail
  clear hmk
  go_loopw [6] (fun vi wr => ∃ i : Nat, i ≤ m ∧ vi = .int .i64 (i : Int) ∧ OwnC wr gt 3 1 (some ⟨gt, 0, none⟩) m m (fun j => .int .i64 (if j < i then -1 else 0)) ∧ Below w.heap.size w wr) (fun vi _ => m - (intOf vi).toNat)
  case atStart => exact ⟨0, Nat.zero_le _, rfl, HO.out.same fun j _ => by rw [if_neg (by omega)], HB.out⟩
  case round =>
    obtain ⟨i, hi, rfl, ho, hb⟩ := hrel
    have HO1 := Lib.hid ho
    have HB1 := Lib.hid hb
    by_cases hlt : i < m
    · have l1 : (i : Int) < (m : Int) := by omega
      have i0 : (0 : Int) ≤ (i : Int) := by omega
      have i2 : ((i : Int)).toNat = i := by omega
      have zi : IntKind.i64.wrap ((i : Int) + 1) = (i : Int) + 1 := by rw [IntKind.wrap_i64]; omega
      obtain ⟨g', e, _, _, hcc, hfz⟩ := ho.lies (by omega)
      injection e with e
      injection e with e
      subst e
      have xc := hcc i (by omega)
      have xf := hfz i
      rw [if_neg (Nat.lt_irrefl i)] at xc
      have HSET : Hid (OwnC (wr.setCell ⟨gt, i, none⟩ (.int .i64 (-1))) gt 3 1 (some ⟨gt, 0, none⟩) m m (fun j => .int .i64 (if j < i + 1 then -1 else 0))) := Lib.hid ((HO1.out.set_ i (.int .i64 (-1))).same fun j _ => by
        unfold updV
        by_cases e : j = i
        · rw [if_pos e, if_pos (by omega)]
        · rw [if_neg e]
          show Value.int .i64 (if j < i + 1 then -1 else 0) = Value.int .i64 (if j < i then -1 else 0)
          by_cases e2 : j < i
          · rw [if_pos e2, if_pos (by omega)]
          · rw [if_neg e2, if_neg (by omega)])
      have HB2 : Hid (Below w.heap.size w (wr.setCell ⟨gt, i, none⟩ (.int .i64 (-1)))) := Lib.hid (HB1.out.setCell (p := ⟨gt, i, none⟩) (by have := HGT.out; show w.heap.size ≤ gt; omega) _)
      clear ho hb hcc hfz
      go_wp2_with fail
      go_roundw
      case rel => exact ⟨i + 1, by omega, by go_num, HSET.out, HB2.out⟩
      case measure => simp [intOf]; omega
    · obtain rfl : m = i := by omega
      have HO2 : Hid (OwnC wr gt 3 1 (some ⟨gt, 0, none⟩) m m (iV (tabN l m 0))) := Lib.hid (HO1.out.same fun j hj => by
        rw [if_pos (by omega)]
        rfl)
      clear ho hb HO1 HO HB
      go_upto_region 7 with (first
        | (go_at_call 12
           refine (HOR.out _ HB1.out).mono ?_
           rintro e u2 ⟨Ao, co, rfl, ho, hb⟩
           have HO3 := Lib.hid (HO2.out.below hb)
           have HRD := Lib.hid ho
           have HB3 := Lib.hid (HB1.out.trans (hb.mono HB1.out.size))
           have HGS : Hid (gt < wr.heap.size ∧ wr.heap.size ≤ u2.heap.size) := Lib.hid ⟨by
             obtain ⟨g', e, _, hl, _, _⟩ := HO2.out.lies (by omega)
             injection e with e
             injection e with e
             rw [e]
             exact hl, hb.size⟩
           clear ho hb))
      obtain ⟨u3, hmk, ho, hg⟩ := made_r u2 n (by omega)
      have hb3 : Below u2.heap.size u2 u3 := (Below.refl _ _).grown hg (Nat.le_refl _) fun _ h => nomatch h
      have hgr : u2.heap.size < u3.heap.size := (World.ownsRow.lt ho u2.heap.size rfl).2
      have HX0 : Hid (TbM l m w gt u2.heap.size u3.heap.size Ao co (fun _ => .slice none 0 0) u3 (tabN l m 0) 0) := Lib.hid (by
        rw [HNN.out] at ho
        exact ⟨HO3.out.below hb3, (HRD.out.below hb3).le (by have := HGS.out; omega), ho, fun j hj => by omega, ⟨by rw [HGT.out]; exact Nat.le_refl _, by have := HGS.out; omega, hgr, Nat.le_refl _⟩, HB3.out.trans (hb3.mono HB3.out.size), fun g e => by
          have := (World.ownsRow.lt HRD.out g (by rw [e]; rfl)).2
          omega⟩)
      obtain ⟨gr, hgr'⟩ : ∃ gr, gr = u2.heap.size := ⟨_, rfl⟩
      obtain ⟨B0, hB0⟩ : ∃ B0, B0 = u3.heap.size := ⟨_, rfl⟩
      rw [← hgr', ← hB0] at HX0
      rw [← hgr'] at hmk
      have HCO : Hid (Ao = none → (ordL l).length = 0) := Lib.hid fun e => by
        rcases Nat.eq_zero_or_pos (ordL l).length with q | q
        · exact q
        · obtain ⟨g, e', _⟩ := HRD.out.lies q
          rw [e] at e'
          cases e'
      obtain ⟨L, hL⟩ : ∃ L, L = (ordL l).length := ⟨_, rfl⟩
      have HLL := Lib.hid hL
      rw [← hL] at HLN HCO ⊢
      have hL9 : L ≤ n := HLN.out
      clear hgr' hB0 hgr hb3 ho hg HO2 HO3 HRD HB3 HGS HB1 hL
      go_wp2_with fail
      clear hmk
      go_loopw [9] (fun vk wr => ∃ (k : Nat) (R : Nat → Value), k ≤ L ∧ vk = .int .i64 (k : Int) ∧ TbM l m w gt gr B0 Ao co R wr (tabN l m 0) k) (fun vk _ => L - (intOf vk).toNat)
      case atStart => exact ⟨0, _, Nat.zero_le _, rfl, HX0.out⟩
      case round =>
        obtain ⟨k, R, hk, rfl, hx⟩ := hrel
        have HX := Lib.hid hx
        by_cases hkl : k < L
        · have l1 : (k : Int) < (L : Int) := by omega
          have k0 : (0 : Int) ≤ (k : Int) := by omega
          have k2 : ((k : Int)).toNat = k := by omega
          have zk : IntKind.i64.wrap ((k : Int) + 1) = (k : Int) + 1 := by rw [IntKind.wrap_i64]; omega
          have hkl' : k < (ordL l).length := by rw [← HLL.out]; exact hkl
          obtain ⟨go, e, _, hgo, hco, _⟩ := hx.ord.lies (by omega)
          subst e
          have xo := hco k (by omega)
          unfold oV at xo
          have hpl := HOL.out k hkl'
          obtain ⟨b, off, e, hbb, hcl⟩ := HL.out.at_ hpl.1
          subst e
          have xs := (hx.bel.cell (p := ⟨b, off + oa (ordL l) k * 2, none⟩) hbb).trans (hcl _ hpl.1).1
          have HOK := Lib.hid fun W => HOF.out k W hkl'
          have HSL := Lib.hid fun W => HSS.out k W hkl'
          have HXR := Lib.hid fun (u : World) (hu : TbM l m w gt gr B0 (some ⟨go, 0, none⟩) co R u (tabN l m 0) k) (G : Option Addr) (d : Nat) ho => hu.setR (G := G) (d := d) hkl' ho
          have hgo2 := hx.olt go rfl
          obtain ⟨pa, hpa⟩ : ∃ pa, pa = (qL l (ordL l) m k).1 := ⟨_, rfl⟩
          obtain ⟨pb, hpb⟩ : ∃ pb, pb = (qL l (ordL l) m k).2 := ⟨_, rfl⟩
          obtain ⟨p, hp⟩ : ∃ p, p = oa (ordL l) k := ⟨_, rfl⟩
          rw [← hp] at xo xs HOK HXR hpl
          rw [← hpa, ← hpb] at HOK HSL HXR
          obtain ⟨S, hS⟩ : ∃ S, S = (wa l p).s := ⟨_, rfl⟩
          rw [← hS] at xs HOK
          have p1 : (p : Int) < (n : Int) := by have := HNN.out; omega
          have p0 : (0 : Int) ≤ (p : Int) := by omega
          have p2 : ((p : Int)).toNat = p := by omega
          have HGO := Lib.hid (show wr.cell? ⟨go, k, none⟩ = some (.int .i64 (p : Int)) ∧ go < wr.heap.size from ⟨by rw [← xo], hgo⟩)
          have HPN : Hid (p < n) := Lib.hid (by omega)
          clear hx hco hgo hcl hpa hpb hp hS hpl hkl' hbb hgo2
          go_upto_region 12 with (first
            | (go_at_call 29
               refine (HOK.out _).mono ?_
               rintro e v1 ⟨rfl, hb⟩
               have HX1 := Lib.hid (HX.out.step hb)
               have HG1 := Lib.hid (show v1.cell? ⟨go, k, none⟩ = some (.int .i64 (p : Int)) ∧ go < v1.heap.size from ⟨(hb.cell (p := ⟨go, k, none⟩) HGO.out.2).trans HGO.out.1, Nat.lt_of_lt_of_le HGO.out.2 hb.size⟩)
               clear hb))
          change Code.wp _ _ _ _ (v1.alloc (.cells #[.int .i64 (pa : Int), .int .i64 (pb : Int), .int .i64 (m : Int)] 50))
          have HP1 : Hid ((v1.alloc (.cells #[.int .i64 (pa : Int), .int .i64 (pb : Int), .int .i64 (m : Int)] 50)).heap[v1.heap.size]? = some (.cells #[.int .i64 (pa : Int), .int .i64 (pb : Int), .int .i64 (m : Int)] 50 (0, 0))) := Lib.hid (heap_alloc_new v1 _)
          have HX2 := Lib.hid (HX1.out.step (below_alloc v1 (.cells #[.int .i64 (pa : Int), .int .i64 (pb : Int), .int .i64 (m : Int)] 50)))
          have HXO := Lib.hid (show (v1.alloc (.cells #[.int .i64 (pa : Int), .int .i64 (pb : Int), .int .i64 (m : Int)] 50)).cell? ⟨go, k, none⟩ = some (.int .i64 (p : Int)) ∧ go < (v1.alloc (.cells #[.int .i64 (pa : Int), .int .i64 (pb : Int), .int .i64 (m : Int)] 50)).heap.size from ⟨((below_alloc v1 _).cell (p := ⟨go, k, none⟩) HG1.out.2).trans HG1.out.1, Nat.lt_of_lt_of_le HG1.out.2 (alloc_le v1 _)⟩)
          obtain ⟨r, hr⟩ : ∃ r, r = v1.heap.size := ⟨_, rfl⟩
          rw [← hr] at HP1 ⊢
          clear hr xo xs HX HX1 HGO HG1
          generalize v1.alloc (.cells #[.int .i64 (pa : Int), .int .i64 (pb : Int), .int .i64 (m : Int)] 50) = u1 at *
          refine wp_region_grow (C := fun W => Below u1.heap.size u1 W) 8 105 [val (.slice (some ⟨gr, 0, none⟩) n n), val (.slice (some ⟨go, 0, none⟩) L co), val (.int .i64 (k : Int)), val (.pointer (some ⟨go, k, none⟩)), val (.int .i64 (p : Int)), val (.agg #[.int .i64 (pa : Int), .int .i64 (pb : Int), .int .i64 (m : Int)]), fun v W => ∃ g, v = .slice (some ⟨g, 0, none⟩) m m ∧ OwnC W u1.heap.size 3 1 (some ⟨g, 0, none⟩) m m (sf pa pb m), val (.pointer (some ⟨gr, p, none⟩))] (by kernel_rfl) rfl (by kernel_rfl) rfl ⟨stb_val _, stb_val _, stb_val _, stb_val _, stb_val _, stb_val _, (fun v W W' h hb => by obtain ⟨g, e, h⟩ := h; exact ⟨g, e, h.below hb⟩), stb_val _, trivial⟩ (Below.refl _ _).drew ?_ ?_
          · refine each_cons ?_ ?_
            · intro a W hW hd
              have h8 : a.tmps[8]?.getD undef = .slice (some ⟨gr, 0, none⟩) n n := slot_eq (hd 8 (by decide))
              exact grows_value _ hW (by simp [execOp, Act.eval, h8]) rfl
            refine each_cons ?_ ?_
            · intro a W hW hd
              have h7 : a.tmps[7]?.getD undef = .slice (some ⟨go, 0, none⟩) L co := slot_eq (hd 7 (by decide))
              exact grows_value _ hW (by simp [execOp, Act.eval, h7]) rfl
            refine each_cons ?_ ?_
            · intro a W hW hd
              have h9 : a.tmps[9]?.getD undef = .int .i64 (k : Int) := slot_eq (hd 9 (by decide))
              exact grows_value _ hW (by simp [execOp, Act.eval, h9]) rfl
            refine each_cons ?_ ?_
            · intro a W hW hd
              have h50 : a.tmps[50]?.getD undef = .slice (some ⟨go, 0, none⟩) L co := slot_eq (hd 50 (by decide))
              have h51 : a.tmps[51]?.getD undef = .int .i64 (k : Int) := slot_eq (hd 51 (by decide))
              refine grows_value _ hW (?_ : _ = _) rfl
              clear hd
              go_simp
            refine each_cons ?_ ?_
            · intro a W hW hd
              have h52 : a.tmps[52]?.getD undef = .pointer (some ⟨go, k, none⟩) := slot_eq (hd 52 (by decide))
              have xx := (hW.cell (p := ⟨go, k, none⟩) HXO.out.2).trans HXO.out.1
              refine grows_value _ hW (?_ : _ = _) rfl
              clear hd
              go_simp
            refine each_cons ?_ ?_
            · intro a W hW hd
              have h10 : a.tmps[10]?.getD undef = .pointer (some ⟨r, 0, none⟩) := slot_eq (hd 10 (by decide))
              have z0 := blk_cell ((hW.block r (lt_heap HP1.out)).trans HP1.out) 0
              have z1 := blk_cell ((hW.block r (lt_heap HP1.out)).trans HP1.out) 1
              have z2 := blk_cell ((hW.block r (lt_heap HP1.out)).trans HP1.out) 2
              refine grows_value _ hW (?_ : _ = _) rfl
              clear hd
              go_simp
            refine each_cons ?_ ?_
            · intro a W hW hd
              have h54 : a.tmps[54]?.getD undef = .agg #[.int .i64 (pa : Int), .int .i64 (pb : Int), .int .i64 (m : Int)] := slot_eq (hd 54 (by decide))
              refine grows_call (fn := 30) (args := #[.agg #[.int .i64 (pa : Int), .int .i64 (pb : Int), .int .i64 (m : Int)]]) (by clear hd; go_simp) ?_
              refine (HSL.out W).mono ?_
              rintro e w' ⟨g, rfl, ho, hb⟩
              exact ⟨_, rfl, ⟨g, rfl, ho.le hW.size⟩, hb, hW.trans (hb.mono hW.size)⟩
            refine each_cons ?_ ?_
            · intro a W hW hd
              have h49 : a.tmps[49]?.getD undef = .slice (some ⟨gr, 0, none⟩) n n := slot_eq (hd 49 (by decide))
              have h53 : a.tmps[53]?.getD undef = .int .i64 (p : Int) := slot_eq (hd 53 (by decide))
              refine grows_value _ hW (?_ : _ = _) rfl
              clear hd
              go_simp
            exact each_nil
          · refine behind_val rfl ?_
            refine behind_val rfl ?_
            refine behind_val rfl ?_
            refine behind_val rfl ?_
            refine behind_val rfl ?_
            refine behind_val rfl ?_
            refine behind_cons fun v55 => ?_
            refine behind_val rfl ?_
            refine behind_nil fun W3 hCW3 hFW3 => ?_
            simp only [Act.put, List.setIfInBounds_toArray, List.set_cons_succ, List.set_cons_zero, List.drop_succ_cons, List.drop_zero]
            obtain ⟨_, g, rfl, hog⟩ := hFW3
            have HX3 := Lib.hid (HX2.out.step hCW3)
            have HX4 := Lib.hid (HXR.out _ HX3.out _ _ (hog.le HX2.out.lo.2.2.2))
            obtain ⟨g', e, _, _, hrc, hrf⟩ := HX3.out.rows.lies (by have := HNN.out; omega)
            injection e with e
            injection e with e
            subst e
            have xr := hrc p (by have := HNN.out; have := HPN.out; omega)
            have xf := hrf p
            obtain ⟨old, ho⟩ : ∃ old, old = R p := ⟨_, rfl⟩
            rw [← ho] at xr
            clear hog hrc hrf hCW3 ho HX2 HXO HP1
            go_wp2_with fail
            go_roundw
            case rel => exact ⟨k + 1, _, by omega, by go_num, HX4.out⟩
            case measure => simp [intOf]; omega
        · obtain rfl : L = k := by omega
          have HXL : Hid (TbM l m w gt gr B0 Ao co R wr (tabN l m 0) L) := HX
          have HPS : Hid (∀ x, x < L → preW (wsL l (ordL l)) (x + 1) = preW (wsL l (ordL l)) x + (wa l (oa (ordL l) x)).w.toNat) := Lib.hid fun x hx => by
            rw [preW_succ _ _ (by rw [wsL_len, ← HLL.out]; exact hx), wsL_at l (by rw [← HLL.out]; exact hx)]
          have HPL : Hid (preW (wsL l (ordL l)) L = (wsL l (ordL l)).sum) := Lib.hid (by rw [HLL.out, ← wsL_len l, preW_all])
          have HP0 : Hid (preW (wsL l (ordL l)) 0 = 0) := Lib.hid rfl
          have HWP : Hid (0 < L → 0 < (wsL l (ordL l)).sum) := Lib.hid fun h => wsL_pos fun e => by
            have := HLL.out
            rw [e] at this
            simp at this
            omega
          have HSTP : Hid (∀ j T x v, j < m → x < L → v < (wa l (oa (ordL l) x)).w.toNat → j = T * (wsL l (ordL l)).sum + preW (wsL l (ordL l)) x + v → ∃ y, y < m ∧ tabN l m j (slN (qL l (ordL l) m x).1 (qL l (ordL l) m x).2 m y) < 0 ∧ (∀ z, z < y → 0 ≤ tabN l m j (slN (qL l (ordL l) m x).1 (qL l (ordL l) m x).2 m z)) ∧ ∀ s, tabN l m (j + 1) s = if s = slN (qL l (ordL l) m x).1 (qL l (ordL l) m x).2 m y then (oa (ordL l) x : Int) else tabN l m j s) := Lib.hid fun j T x v h1 h2 h3 h4 => HST.out j T x v h1 (by rw [← HLL.out]; exact h2) h3 h4
          have HFIN : Hid (∀ j, (L = 0 → j = 0) → (j = m ∨ L = 0) → ∀ s, tabV l m s = tabN l m j s) := Lib.hid fun j h0 hj s => by
            unfold tabV
            by_cases e : ordL l = []
            · rw [if_pos e, h0 (by rw [HLL.out, e]; rfl)]
            · rw [if_neg e]
              rcases hj with h | h
              · rw [h]
              · exact absurd (List.length_eq_zero_iff.1 (by rw [← HLL.out]; exact h)) e
          obtain ⟨P, hP⟩ : ∃ P, P = preW (wsL l (ordL l)) := ⟨_, rfl⟩
          obtain ⟨Z, hZ⟩ : ∃ Z, Z = (wsL l (ordL l)).sum := ⟨_, rfl⟩
          rw [← hP] at HPS HPL HP0 HSTP
          rw [← hZ] at HPL HWP HSTP
          clear hx HX hP hZ HX0 HST
          go_wp2_with fail
          go_loopw [12] (fun vl wr => ∃ j : Nat, j ≤ m ∧ vl = .int .i64 ((m - j : Nat) : Int) ∧ (L = 0 → j = 0) ∧ ((∃ T, j = T * Z) ∨ j = m) ∧ TbM l m w gt gr B0 Ao co R wr (tabN l m j) L) (fun vl _ => (intOf vl).toNat)
          case atStart => exact ⟨0, Nat.zero_le _, rfl, fun _ => rfl, .inl ⟨0, by omega⟩, HXL.out⟩
          case round =>
            obtain ⟨j0, hj0, rfl, hk0, hT, hx⟩ := hrel
            have HX := Lib.hid hx
            by_cases hgo : j0 < m ∧ 0 < L
            · obtain ⟨T, hT⟩ : ∃ T, j0 = T * Z := hT.resolve_right (by omega)
              have HJT := Lib.hid hT
              have hz0 := HWP.out hgo.2
              obtain ⟨q, hq⟩ : ∃ q, q = m - j0 := ⟨_, rfl⟩
              rw [← hq]
              have d1 : (0 : Int) < (q : Int) := by omega
              have d2 : (0 : Int) < (L : Int) := by omega
              obtain ⟨go, e, _, hgo1, _, _⟩ := hx.ord.lies (by rw [← HLL.out]; exact hgo.2)
              subst e
              have hgo2 := hx.olt go rfl
              have HQM := Lib.hid (show q = m - j0 ∧ j0 < m from ⟨hq, hgo.1⟩)
              clear hx hk0 hT hgo hgo1
              go_wp2_with fail
              go_loopw [12, 13] (fun vl vk wr => ∃ x j : Nat, x ≤ L ∧ j ≤ m ∧ vl = .int .i64 ((m - j : Nat) : Int) ∧ vk = .int .i64 (x : Int) ∧ (j = j0 + P x ∨ j = m) ∧ TbM l m w gt gr B0 (some ⟨go, 0, none⟩) co R wr (tabN l m j) L) (fun _ vk _ => L - (intOf vk).toNat)
              case atStart => exact ⟨0, j0, Nat.zero_le _, by omega, by rw [← HQM.out.1], rfl, .inl (by have := HP0.out; omega), HX.out⟩
              case round =>
                obtain ⟨x, j, hx1, hj, rfl, rfl, hjx, hm⟩ := hrel
                have HM := Lib.hid hm
                by_cases hxl : x < L
                · have l1 : (x : Int) < (L : Int) := by omega
                  have x0 : (0 : Int) ≤ (x : Int) := by omega
                  have x2 : ((x : Int)).toNat = x := by omega
                  have zx : IntKind.i64.wrap ((x : Int) + 1) = (x : Int) + 1 := by rw [IntKind.wrap_i64]; omega
                  have hxl' : x < (ordL l).length := by rw [← HLL.out]; exact hxl
                  have hpl := HOL.out x hxl'
                  obtain ⟨b, off, e, hbb, hcl⟩ := HL.out.at_ hpl.1
                  subst e
                  obtain ⟨G, d, hRG, _⟩ := hm.row x hxl
                  have HPX := HPS.out x hxl
                  have HSTX := Lib.hid fun j v h1 h3 h4 => HSTP.out j T x v h1 hxl h3 h4
                  have HCEL : Hid (∀ (wr : World) (t : Nat → Int), TbM l m w gt gr B0 (some ⟨go, 0, none⟩) co R wr t L → wr.cell? ⟨go, x, none⟩ = some (.int .i64 (oa (ordL l) x : Int)) ∧ go < wr.heap.size ∧ wr.cell? ⟨b, off + oa (ordL l) x * 2 + 1, none⟩ = some (.int .i64 (wa l (oa (ordL l) x)).w) ∧ wr.cell? ⟨gr, oa (ordL l) x, none⟩ = some (.slice G m d) ∧ gr < wr.heap.size ∧ RdC wr wr.heap.size G m (sf (qL l (ordL l) m x).1 (qL l (ordL l) m x).2 m) ∧ RdC wr wr.heap.size (some ⟨gt, 0, none⟩) m (iV t)) := Lib.hid fun wr t h => by
                    obtain ⟨g1, e1, _, hl1, hc1, _⟩ := h.ord.lies (by omega)
                    injection e1 with e1
                    injection e1 with e1
                    subst e1
                    obtain ⟨g2, e2, _, hl2, hc2, _⟩ := h.rows.lies (by omega)
                    injection e2 with e2
                    injection e2 with e2
                    subst e2
                    obtain ⟨G', d', hG', ho'⟩ := h.row x hxl
                    rw [hRG] at hG'
                    injection hG' with q1 q2 q3
                    subst q1
                    subst q3
                    have r1 := ho'.rd
                    have r2 := h.tab.rd
                    rw [Nat.mul_one] at r1 r2
                    have c1 := hc1 x (by omega)
                    have c2 := hc2 (oa (ordL l) x) (by omega)
                    rw [hRG] at c2
                    exact ⟨c1, hl1, (h.bel.cell (p := ⟨b, off + oa (ordL l) x * 2 + 1, none⟩) hbb).trans (hcl _ hpl.1).2, c2, hl2, r1, r2⟩
                  obtain ⟨wt, hwt⟩ := Int.eq_ofNat_of_zero_le (show 0 ≤ (wa l (oa (ordL l) x)).w by omega)
                  rw [hwt, Int.toNat_natCast] at HPX HSTX
                  rw [hwt] at HCEL
                  have HPY := Lib.hid HPX
                  obtain ⟨pa, hpa⟩ : ∃ pa, pa = (qL l (ordL l) m x).1 := ⟨_, rfl⟩
                  obtain ⟨pb, hpb⟩ : ∃ pb, pb = (qL l (ordL l) m x).2 := ⟨_, rfl⟩
                  obtain ⟨p, hp⟩ : ∃ p, p = oa (ordL l) x := ⟨_, rfl⟩
                  rw [← hp, ← hpa, ← hpb] at HCEL HSTX
                  rw [← hp] at hpl
                  have hwb := HOW.out p hpl.1
                  have p1 : (p : Int) < (n : Int) := by have := HNN.out; omega
                  have p0 : (0 : Int) ≤ (p : Int) := by omega
                  have p2 : ((p : Int)).toNat = p := by omega
                  have hw9 : wt ≤ 100 := by rw [← hp] at hwt; omega
                  have HJX := Lib.hid hjx
                  obtain ⟨Px, hPx⟩ : ∃ Px, Px = P x := ⟨_, rfl⟩
                  rw [← hPx] at HJX HPY HSTX
                  clear hm hcl hRG HPX hpa hpb hp hwt hpl hxl' hbb hjx hPx hwb
                  go_wp2_with fail
                  go_loopw [12, 14] (fun vl vv wr => ∃ v j : Nat, v ≤ wt ∧ j ≤ m ∧ vl = .int .i64 ((m - j : Nat) : Int) ∧ vv = .int .i64 (v : Int) ∧ (j = j0 + Px + v ∨ j = m) ∧ TbM l m w gt gr B0 (some ⟨go, 0, none⟩) co R wr (tabN l m j) L) (fun _ vv _ => wt - (intOf vv).toNat)
                  case atStart => exact ⟨0, j, Nat.zero_le _, hj, rfl, rfl, by have := HJX.out; omega, HM.out⟩
                  case round =>
                    obtain ⟨v, j, hv, hj, rfl, rfl, hjv, hm⟩ := hrel
                    have HX2 := Lib.hid hm
                    obtain ⟨xo, hgo1, xw, xg, hgr1, rg, rt⟩ := HCEL.out wr _ hm
                    have HXO := Lib.hid (show wr.cell? ⟨go, x, none⟩ = some (.int .i64 (p : Int)) ∧ go < wr.heap.size from ⟨xo, hgo1⟩)
                    have HXG := Lib.hid (show wr.cell? ⟨gr, p, none⟩ = some (.slice G m d) ∧ gr < wr.heap.size from ⟨xg, hgr1⟩)
                    have zv : IntKind.i64.wrap ((v : Int) + 1) = (v : Int) + 1 := by rw [IntKind.wrap_i64]; omega
                    have HJV := Lib.hid hjv
                    have hjq : (m - j = 0) ∨ 0 < m - j := by omega
                    obtain ⟨q1, hq1⟩ : ∃ q1, q1 = m - j := ⟨_, rfl⟩
                    rw [← hq1] at hjq ⊢
                    have HQ1 := Lib.hid (show q1 = m - j ∧ j ≤ m from ⟨hq1, hj⟩)
                    clear hjv hm
                    by_cases hvw : v < wt
                    · have l2 : (v : Int) < (wt : Int) := by omega
                      by_cases hjm : j < m
                      · have d3 : (0 : Int) < (q1 : Int) := by omega
                        have zq : IntKind.i64.wrap ((q1 : Int) - 1) = ((q1 - 1 : Nat) : Int) := by rw [IntKind.wrap_i64]; omega
                        obtain ⟨y, hy, hf, hlow, htn⟩ := HSTX.out j v hjm hvw (by rw [← HJT.out]; have := HJV.out; omega)
                        have HFR : Hid (∀ W, Below wr.heap.size wr W → Calls Try.prog 31 #[.slice (some ⟨gt, 0, none⟩) m m, .slice G m d] W (ret (.int .i64 (slN pa pb m y : Int)) W)) := Lib.hid fun W hW => rfree_any (tabN l m j) pa pb m (some ⟨gt, 0, none⟩) G m d W y hy (by omega) hf (fun z hz => by have := hlow z hz; omega) (by omega) ((rt.keep hW).more hW.size) ((rg.keep hW).more hW.size)
                        have hsm := slN_lt (o := pa) (k := pb) (show 0 < m by omega) y
                        obtain ⟨s, hs⟩ : ∃ s, s = slN pa pb m y := ⟨_, rfl⟩
                        rw [← hs] at HFR hsm htn
                        have HTN := Lib.hid htn
                        have HSM := Lib.hid hsm
                        have s1 : (s : Int) < (m : Int) := by omega
                        have s0 : (0 : Int) ≤ (s : Int) := by omega
                        have s2 : ((s : Int)).toNat = s := by omega
                        have HQN : Hid (Value.int IntKind.i64 ((q1 - 1 : Nat) : Int) = .int .i64 ((m - (j + 1) : Nat) : Int)) := Lib.hid (by rw [hq1]; rfl)
                        clear hf hlow htn hs hsm rg rt hq1 hjq hgo1 hgr1 xg
                        go_upto_region 21 with fail
                        refine wp_region_grow (C := fun W => Below wr.heap.size wr W) 15 105 [val (.slice (some ⟨gt, 0, none⟩) m m), val (.slice (some ⟨gt, 0, none⟩) m m), val (.slice (some ⟨gr, 0, none⟩) n n), val (.slice (some ⟨go, 0, none⟩) L co), val (.int .i64 (x : Int)), val (.pointer (some ⟨go, x, none⟩)), val (.int .i64 (p : Int)), val (.pointer (some ⟨gr, p, none⟩)), val (.slice G m d), val (.int .i64 (s : Int)), val (.slice (some ⟨go, 0, none⟩) L co), val (.int .i64 (x : Int)), val (.pointer (some ⟨go, x, none⟩)), val (.int .i64 (p : Int)), val (.pointer (some ⟨gt, s, none⟩))] (by kernel_rfl) rfl (by kernel_rfl) rfl ⟨stb_val _, stb_val _, stb_val _, stb_val _, stb_val _, stb_val _, stb_val _, stb_val _, stb_val _, stb_val _, stb_val _, stb_val _, stb_val _, stb_val _, stb_val _, trivial⟩ (Below.refl _ _).drew ?_ ?_
                        · refine each_cons ?_ ?_
                          · intro a W hW hd
                            have h5 : a.tmps[5]?.getD undef = .slice (some ⟨gt, 0, none⟩) m m := slot_eq (hd 5 (by decide))
                            exact grows_value _ hW (by simp [execOp, Act.eval, h5]) rfl
                          refine each_cons ?_ ?_
                          · intro a W hW hd
                            have h5 : a.tmps[5]?.getD undef = .slice (some ⟨gt, 0, none⟩) m m := slot_eq (hd 5 (by decide))
                            exact grows_value _ hW (by simp [execOp, Act.eval, h5]) rfl
                          refine each_cons ?_ ?_
                          · intro a W hW hd
                            have h8 : a.tmps[8]?.getD undef = .slice (some ⟨gr, 0, none⟩) n n := slot_eq (hd 8 (by decide))
                            exact grows_value _ hW (by simp [execOp, Act.eval, h8]) rfl
                          refine each_cons ?_ ?_
                          · intro a W hW hd
                            have h7 : a.tmps[7]?.getD undef = .slice (some ⟨go, 0, none⟩) L co := slot_eq (hd 7 (by decide))
                            exact grows_value _ hW (by simp [execOp, Act.eval, h7]) rfl
                          refine each_cons ?_ ?_
                          · intro a W hW hd
                            have h13 : a.tmps[13]?.getD undef = .int .i64 (x : Int) := slot_eq (hd 13 (by decide))
                            exact grows_value _ hW (by simp [execOp, Act.eval, h13]) rfl
                          refine each_cons ?_ ?_
                          · intro a W hW hd
                            have h90 : a.tmps[90]?.getD undef = .slice (some ⟨go, 0, none⟩) L co := slot_eq (hd 90 (by decide))
                            have h91 : a.tmps[91]?.getD undef = .int .i64 (x : Int) := slot_eq (hd 91 (by decide))
                            refine grows_value _ hW (?_ : _ = _) rfl
                            clear hd
                            go_simp
                          refine each_cons ?_ ?_
                          · intro a W hW hd
                            have h92 : a.tmps[92]?.getD undef = .pointer (some ⟨go, x, none⟩) := slot_eq (hd 92 (by decide))
                            have xx := (hW.cell (p := ⟨go, x, none⟩) HXO.out.2).trans HXO.out.1
                            refine grows_value _ hW (?_ : _ = _) rfl
                            clear hd
                            go_simp
                          refine each_cons ?_ ?_
                          · intro a W hW hd
                            have h89 : a.tmps[89]?.getD undef = .slice (some ⟨gr, 0, none⟩) n n := slot_eq (hd 89 (by decide))
                            have h93 : a.tmps[93]?.getD undef = .int .i64 (p : Int) := slot_eq (hd 93 (by decide))
                            refine grows_value _ hW (?_ : _ = _) rfl
                            clear hd
                            go_simp
                          refine each_cons ?_ ?_
                          · intro a W hW hd
                            have h94 : a.tmps[94]?.getD undef = .pointer (some ⟨gr, p, none⟩) := slot_eq (hd 94 (by decide))
                            have xx := (hW.cell (p := ⟨gr, p, none⟩) HXG.out.2).trans HXG.out.1
                            refine grows_value _ hW (?_ : _ = _) rfl
                            clear hd
                            go_simp
                          refine each_cons ?_ ?_
                          · intro a W hW hd
                            have h88 : a.tmps[88]?.getD undef = .slice (some ⟨gt, 0, none⟩) m m := slot_eq (hd 88 (by decide))
                            have h95 : a.tmps[95]?.getD undef = .slice G m d := slot_eq (hd 95 (by decide))
                            refine grows_call (fn := 31) (args := #[.slice (some ⟨gt, 0, none⟩) m m, .slice G m d]) (by clear hd; go_simp) ?_
                            refine (HFR.out W hW).mono ?_
                            rintro e w' ⟨rfl, hb⟩
                            exact ⟨_, rfl, rfl, hb, hW.trans (hb.mono hW.size)⟩
                          refine each_cons ?_ ?_
                          · intro a W hW hd
                            have h7 : a.tmps[7]?.getD undef = .slice (some ⟨go, 0, none⟩) L co := slot_eq (hd 7 (by decide))
                            exact grows_value _ hW (by simp [execOp, Act.eval, h7]) rfl
                          refine each_cons ?_ ?_
                          · intro a W hW hd
                            have h13 : a.tmps[13]?.getD undef = .int .i64 (x : Int) := slot_eq (hd 13 (by decide))
                            exact grows_value _ hW (by simp [execOp, Act.eval, h13]) rfl
                          refine each_cons ?_ ?_
                          · intro a W hW hd
                            have h97 : a.tmps[97]?.getD undef = .slice (some ⟨go, 0, none⟩) L co := slot_eq (hd 97 (by decide))
                            have h98 : a.tmps[98]?.getD undef = .int .i64 (x : Int) := slot_eq (hd 98 (by decide))
                            refine grows_value _ hW (?_ : _ = _) rfl
                            clear hd
                            go_simp
                          refine each_cons ?_ ?_
                          · intro a W hW hd
                            have h99 : a.tmps[99]?.getD undef = .pointer (some ⟨go, x, none⟩) := slot_eq (hd 99 (by decide))
                            have xx := (hW.cell (p := ⟨go, x, none⟩) HXO.out.2).trans HXO.out.1
                            refine grows_value _ hW (?_ : _ = _) rfl
                            clear hd
                            go_simp
                          refine each_cons ?_ ?_
                          · intro a W hW hd
                            have h87 : a.tmps[87]?.getD undef = .slice (some ⟨gt, 0, none⟩) m m := slot_eq (hd 87 (by decide))
                            have h96 : a.tmps[96]?.getD undef = .int .i64 (s : Int) := slot_eq (hd 96 (by decide))
                            refine grows_value _ hW (?_ : _ = _) rfl
                            clear hd
                            go_simp
                          exact each_nil
                        · refine behind_val rfl ?_
                          refine behind_val rfl ?_
                          refine behind_val rfl ?_
                          refine behind_val rfl ?_
                          refine behind_val rfl ?_
                          refine behind_val rfl ?_
                          refine behind_val rfl ?_
                          refine behind_val rfl ?_
                          refine behind_val rfl ?_
                          refine behind_val rfl ?_
                          refine behind_val rfl ?_
                          refine behind_val rfl ?_
                          refine behind_val rfl ?_
                          refine behind_val rfl ?_
                          refine behind_val rfl ?_
                          refine behind_nil fun W3 hCW3 hFW3 => ?_
                          simp only [Act.put, List.setIfInBounds_toArray, List.set_cons_succ, List.set_cons_zero, List.drop_succ_cons, List.drop_zero]
                          have HX3 := Lib.hid ((HX2.out.step hCW3).setT s (p : Int) (t' := tabN l m (j + 1)) HTN.out)
                          obtain ⟨g', e, _, _, hrc, hrf⟩ := (HX2.out.step hCW3).tab.lies (by omega)
                          injection e with e
                          injection e with e
                          subst e
                          have xr := hrc s (by have := HSM.out; omega)
                          have xf := hrf s
                          unfold iV at xr
                          obtain ⟨old, ho⟩ : ∃ old, old = tabN l m j s := ⟨_, rfl⟩
                          rw [← ho] at xr
                          clear hrc hrf hCW3 ho HX2 HXO HXG
                          go_wp2_with fail
                          go_roundw
                          case rel => exact ⟨v + 1, j + 1, by omega, by omega, HQN.out, by go_num, by have := HJV.out; omega, HX3.out⟩
                          case measure => simp [intOf]; omega
                      · have d3 : ¬ (0 : Int) < (q1 : Int) := by omega
                        clear rg rt hgo1 hgr1 xg
                        go_wp2_with fail
                        go_roundw
                        case rel => exact ⟨x + 1, j, by omega, by omega, by rw [HQ1.out.1], by go_num, .inr (by omega), HX2.out⟩
                        case measure => simp [intOf]; omega
                    · have l2 : ¬ (v : Int) < (wt : Int) := by omega
                      clear rg rt hgo1 hgr1 xg
                      go_wp2_with fail
                      go_roundw
                      case rel => exact ⟨x + 1, j, by omega, by omega, by rw [HQ1.out.1], by go_num, by have := HJV.out; have := HPY.out; omega, HX2.out⟩
                      case measure => simp [intOf]; omega
                · obtain rfl : L = x := by omega
                  have HJN : Hid (j0 < j ∧ ((∃ T, j = T * Z) ∨ j = m)) := Lib.hid (by
                    have h1 := HPL.out
                    have h2 := HQM.out.2
                    rcases hjx with e | e
                    · exact ⟨by omega, .inl ⟨T + 1, by rw [Nat.succ_mul, ← HJT.out, e, h1]⟩⟩
                    · exact ⟨by omega, .inr e⟩)
                  obtain ⟨q1, hq1⟩ : ∃ q1, q1 = m - j := ⟨_, rfl⟩
                  rw [← hq1]
                  have HQ1 := Lib.hid (show q1 = m - j ∧ j ≤ m from ⟨hq1, hj⟩)
                  clear hm hjx hq1
                  go_wp2_with fail
                  go_roundw
                  case rel => exact ⟨j, hj, by rw [HQ1.out.1], fun h => by omega, HJN.out.2, HM.out⟩
                  case measure => have := HJN.out.1; have := HQ1.out; have := HQM.out; simp [intOf]; omega
            · have HFN := Lib.hid (HFIN.out j0 hk0 (by omega))
              obtain ⟨q, hq⟩ : ∃ q, q = m - j0 := ⟨_, rfl⟩
              rw [← hq]
              clear hx hT
              rcases (show q = 0 ∨ (0 < q ∧ L = 0) by omega) with rfl | ⟨q1, q2⟩
              · go_wp2_with fail
                go_ret
                exact ⟨gt, m, rfl, (HX.out.tab.le (by rw [HGT.out]; exact Nat.le_refl _)).same fun s _ => by unfold iV; rw [HFN.out], HX.out.bel⟩
              · have d1 : (0 : Int) < (q : Int) := by omega
                have d2 : ¬ (0 : Int) < (L : Int) := by omega
                clear q2 hgo
                go_wp2_with fail
                go_ret
                exact ⟨gt, m, rfl, (HX.out.tab.le (by rw [HGT.out]; exact Nat.le_refl _)).same fun s _ => by unfold iV; rw [HFN.out], HX.out.bel⟩
theorem rtable_any (l : List Wt) (m : Nat) (ok : OkL l (m : Int)) (A : Option Addr) (c : Nat) (w : World) (h : Lw w w.heap.size A c l) : Calls Try.prog 17 #[.slice A l.length c, .int .i64 (m : Int)] w (OutI m (tabV l m) w) := by
  refine (rtable_own l m ok A c w h).mono ?_
  rintro e w2 ⟨g, c2, rfl, ho, hb⟩
  exact OutI.of (w := w) ho (fun s _ => rfl) hb (Nat.le_refl _) (Below.refl _ _)
end Go.Proofs.Ytfchmmojhfjibaa
