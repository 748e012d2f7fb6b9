/- Stage 19: MaglevShares. -/
import Derived.Test.YtfchmmojhfjibaaMgk
import Derived.Test.YtfchmmojhfjibaaMgh
namespace Go.Proofs.Ytfchmmojhfjibaa
set_option maxRecDepth 100000
open Go.RowKit Go.Shelf
set_option maxHeartbeats 1000000 in
theorem mshares_out (HP : MgP) (l : List Wt) (A : Option Addr) (c : Nat) (m : Int) (w : World) (h : Lin w A c l) (hg : grW l m = true) : Calls Try.prog 4 #[.slice A l.length c, .int .i64 m] w (ret (.bool true) w) := by
  have HG := Lib.hid (great_any l A c m w h)
  have HK := Lib.hid fun W => mknown_any HP W
  rw [hg] at HG
  clear hg HP
  go_enter Try.func4, Try.ntmps4
  go_wp2_with (first
    | (go_at_call 6
       refine HG.out.mono ?_
       rintro e u1 ⟨rfl, hb⟩
       have HB1 := Lib.hid hb
       clear hb)
    | (go_at_call 7
       refine (HK.out _).mono ?_
       rintro e u2 ⟨rfl, hb⟩
       have HB2 := Lib.hid (HB1.out.trans (hb.mono HB1.out.size))
       clear hb))
  go_ret
  exact ⟨rfl, HB2.out⟩
set_option maxHeartbeats 1000000 in
theorem mshares_no (HP : MgP) (l : List Wt) (A : Option Addr) (c : Nat) (m : Int) (w : World) (h : Lin w A c l) (hg : grW l m = false) (hl : l.length ≤ 30) (hm : mayW l m = false) : Calls Try.prog 4 #[.slice A l.length c, .int .i64 m] w (ret (.bool true) w) := by
  have HG := Lib.hid (great_any l A c m w h)
  have HK := Lib.hid fun W => mknown_any HP W
  have HM := Lib.hid fun (W : World) (hb : Below w.heap.size w W) => rmmay_any l A c m W ⟨h.cap, h.top, by omega, (h.rd.keep hb).more hb.size⟩
  rw [hg] at HG
  rw [hm] at HM
  clear hg hm HP
  go_enter Try.func4, Try.ntmps4
  go_wp2_with (first
    | (go_at_call 6
       refine HG.out.mono ?_
       rintro e u1 ⟨rfl, hb⟩
       have HB1 := Lib.hid hb
       clear hb)
    | (go_at_call 9
       refine (HM.out _ HB1.out).mono ?_
       rintro e u2 ⟨rfl, hb⟩
       have HB2 := Lib.hid (HB1.out.trans (hb.mono HB1.out.size))
       clear hb)
    | (go_at_call 7
       refine (HK.out _).mono ?_
       rintro e u3 ⟨rfl, hb⟩
       have HB3 := Lib.hid (HB2.out.trans (hb.mono HB2.out.size))
       clear hb))
  go_ret
  exact ⟨rfl, HB3.out⟩
theorem mul_bd {X W : Int} (h1 : 0 ≤ X ∧ X ≤ 65537) (h2 : 0 ≤ W ∧ W ≤ 100) : 0 ≤ X * W ∧ X * W ≤ 6553700 := by
  obtain ⟨x, rfl⟩ := Int.eq_ofNat_of_zero_le h1.1
  obtain ⟨v, rfl⟩ := Int.eq_ofNat_of_zero_le h2.1
  have := Nat.mul_le_mul (show x ≤ 65537 by omega) (show v ≤ 100 by omega)
  rw [show ((x : Int) * (v : Int)) = ((x * v : Nat) : Int) from (Int.natCast_mul x v).symm]
  omega
set_option maxHeartbeats 4000000 in
theorem mshares_yes (HP : MgP) (l : List Wt) (A : Option Addr) (c : Nat) (m : Int) (w : World) (h : Lin w A c l) (hg : grW l m = false) (hl : l.length ≤ 30) (hm : mayW l m = true) : Calls Try.prog 4 #[.slice A l.length c, .int .i64 m] w (ret (.bool true) w) := by
  have HG := Lib.hid (great_any l A c m w h)
  have HK := Lib.hid fun W => mknown_any HP W
  have HM := Lib.hid fun (W : World) (hb : Below w.heap.size w W) => rmmay_any l A c m W ⟨h.cap, h.top, by omega, (h.rd.keep hb).more hb.size⟩
  have HOK := Lib.hid (mayW_iff.1 hm)
  have hM0 : 0 ≤ m := by
    have := HOK.out.sz
    unfold szP at this
    simp only [Bool.and_eq_true, decide_eq_true_eq] at this
    omega
  obtain ⟨M, rfl⟩ := Int.eq_ofNat_of_zero_le hM0
  have et : tbN l (M : Int) = M := by unfold tbN; rw [if_pos hm]; rfl
  have ee : tbE l (M : Int) = 0 := by unfold tbE; rw [if_pos hm]
  have hm9 : M ≤ 65537 := (szP_le HOK.out.sz).2.1
  have HPT : Hid (∀ W, Below w.heap.size w W → Calls Try.prog 15 #[.slice A l.length c, .int .i64 (M : Int)] W fun e w' => ∃ A c, e = .returned (.tuple #[.slice A M c, .int .i64 0]) ∧ M ≤ c ∧ c ≤ 9223372036854775807 ∧ RdC w' w'.heap.size A M (iV (tabV l M)) ∧ Below W.heap.size W w') := Lib.hid fun W hb => by
    refine (HP.table l A c (M : Int) W ⟨h.cap, h.top, by omega, (h.rd.keep hb).more hb.size⟩).mono ?_
    rintro e w' ⟨A2, c2, rfl, q1, q2, q3, q4⟩
    rw [et] at q1 q3
    rw [et, ee]
    exact ⟨A2, c2, rfl, q1, q2, q3, q4⟩
  have HL := Lib.hid h
  rw [hg] at HG
  rw [hm] at HM
  have HTF : Hid (ordL l ≠ [] → ∀ s, s < M → ∃ x : Nat, tabV l M s = (x : Int) ∧ x < l.length ∧ 0 < (wa l x).w) := Lib.hid fun ho s hs => by
    obtain ⟨k, hk, _, e⟩ := tabV_full HOK.out.sz ho hs
    exact ⟨_, e, ordL_lt hk⟩
  have HTN : Hid (ordL l = [] → ∀ s, tabV l M s = -1) := Lib.hid fun ho s => tabV_nil ho s
  have HON : Hid (ordL l = [] ↔ ∀ x, x < l.length → (wa l x).w ≤ 0) := Lib.hid (ordL_nil.trans ⟨fun h x hx => by have := h x hx; omega, fun h x hx => by have := h x hx; omega⟩)
  have HSH : Hid (∀ i k, i < l.length → k < l.length → 0 < (wa l i).w → 0 < (wa l k).w → (cntI (tabV l M) (i : Int) M : Int) * (wa l k).w - (cntI (tabV l M) (k : Int) M : Int) * (wa l i).w ≤ (wa l i).w * (wa l k).w) := Lib.hid fun i k h1 h2 h3 h4 => tab_share HOK.out.sz h1 h2 h3 h4
  have HOW : Hid (∀ i, i < l.length → 0 ≤ (wa l i).w ∧ (wa l i).w ≤ 100) := Lib.hid fun i hi => (HOK.out.one i hi).2.2
  obtain ⟨n, hn⟩ : ∃ n, n = l.length := ⟨_, rfl⟩
  have HNN := Lib.hid hn
  rw [← hn] at HG HM HPT HTF HON HSH HOW hl ⊢
  clear hg hm HP et ee h hn
  go_enter Try.func4, Try.ntmps4
  go_upto_region 6 with (first
    | (go_at_call 6
       refine HG.out.mono ?_
       rintro e u1 ⟨rfl, hb⟩
       have HB1 := Lib.hid hb
       clear hb)
    | (go_at_call 9
       refine (HM.out _ HB1.out).mono ?_
       rintro e u2 ⟨rfl, hb⟩
       have HB2 := Lib.hid (HB1.out.trans (hb.mono HB1.out.size))
       clear hb)
    | (go_at_call 15
       refine (HPT.out _ HB2.out).mono ?_
       rintro e v ⟨T, d, rfl, _, _, hr, hb⟩
       have HT := Lib.hid hr
       have HBV := Lib.hid (HB2.out.trans (hb.mono HB2.out.size))
       clear hb hr))
  clear HG HM HPT HB1 HB2
  obtain ⟨u, hmk, ho, hgr⟩ := made_i v n (by omega)
  have HO : Hid (OwnC u v.heap.size 3 1 (some ⟨v.heap.size, 0, none⟩) n n (iV fun x => (cntI (tabV l M) (x : Int) 0 : Int))) := Lib.hid (ho.same fun j _ => rfl)
  have HBU : Hid (Below v.heap.size v u) := Lib.hid ((Below.refl _ _).grown hgr (Nat.le_refl _) fun _ h => nomatch h)
  obtain ⟨g, hgg⟩ : ∃ g, g = v.heap.size := ⟨_, rfl⟩
  rw [← hgg] at hmk HO
  have HGG := Lib.hid hgg
  have HLV : Hid (∀ W, Below v.heap.size v W → ∀ i, i < n → ∃ a ao, A = some ⟨a, ao, none⟩ ∧ a < v.heap.size ∧ W.cell? ⟨a, ao + i * 2, none⟩ = some (.string (wa l i).s) ∧ W.cell? ⟨a, ao + i * 2 + 1, none⟩ = some (.int .i64 (wa l i).w)) := Lib.hid fun W hb i hi => by
    rcases ((HL.out.rd.keep HBV.out).more HBV.out.size) with h0 | ⟨a, ao, e, ha, hca⟩
    · rw [← HNN.out] at h0; omega
    · refine ⟨a, ao, e, ha, ?_, ?_⟩
      · rw [hb.cell (p := ⟨a, ao + i * 2, none⟩) ha, hca _ (by rw [← HNN.out]; omega), wf_s]
      · rw [hb.cell (p := ⟨a, ao + i * 2 + 1, none⟩) ha, Nat.add_assoc, hca _ (by rw [← HNN.out]; omega), wf_w]
  clear hgg ho hgr
  go_wp2_with fail
  clear hmk
  go_loopw [8, 46] (fun vs vi wr => ∃ i : Nat, i ≤ n ∧ vi = .int .i64 (i : Int) ∧ (∃ b : Bool, vs = .bool b ∧ (b = true ↔ ∃ x, x < i ∧ 0 < (wa l x).w)) ∧ OwnC wr g 3 1 (some ⟨g, 0, none⟩) n n (iV fun x => (cntI (tabV l M) (x : Int) 0 : Int)) ∧ Below v.heap.size v wr) (fun _ vi _ => n - (intOf vi).toNat)
  case atStart => exact ⟨0, Nat.zero_le _, rfl, ⟨false, rfl, ⟨fun h => (by cases h), fun ⟨x, hx, _⟩ => by omega⟩⟩, HO.out, HBU.out⟩
  case round =>
    obtain ⟨i, hi, rfl, ⟨b, rfl, hbi⟩, ho, hb⟩ := hrel
    have HO1 := Lib.hid ho
    have HB := Lib.hid hb
    have HBI := Lib.hid hbi
    clear ho hb hbi
    by_cases hlt : i < n
    · have l1 : (i : Int) < (n : Int) := by omega
      have i0 : (0 : Int) ≤ (i : Int) := by omega
      have i2 : ((i : Int)).toNat = i := by omega
      have zi : IntKind.i64.wrap ((i : Int) + 1) = (i : Int) + 1 := by rw [IntKind.wrap_i64]; omega
      obtain ⟨a, ao, e, ha, xa, ya⟩ := HLV.out wr HB.out i hlt
      subst e
      have HN1 : Hid ((b || decide (0 < (wa l i).w)) = true ↔ ∃ x, x < i + 1 ∧ 0 < (wa l x).w) := Lib.hid (by
        rw [Bool.or_eq_true, HBI.out, decide_eq_true_eq]
        constructor
        · rintro (⟨x, h1, h2⟩ | h1)
          · exact ⟨x, by omega, h2⟩
          · exact ⟨i, by omega, h1⟩
        · rintro ⟨x, h1, h2⟩
          rcases (show x < i ∨ x = i by omega) with q | rfl
          · exact .inl ⟨x, q, h2⟩
          · exact .inr h2)
      obtain ⟨S, hS⟩ : ∃ S, S = (wa l i).s := ⟨_, rfl⟩
      obtain ⟨V, hV⟩ : ∃ V, V = (wa l i).w := ⟨_, rfl⟩
      rw [← hS] at xa
      rw [← hV] at ya HN1
      have HM1 : Hid ((wr.alloc (.cells #[.string S, .int .i64 V] 34)).heap[wr.heap.size]? = some (.cells #[.string S, .int .i64 V] 34 (0, 0))) := Lib.hid (heap_alloc_new wr _)
      have HBA : Hid (Below v.heap.size v (wr.alloc (.cells #[.string S, .int .i64 V] 34))) := Lib.hid (HB.out.alloc HB.out.size _)
      have HOA := Lib.hid (HO1.out.alloc (.cells #[.string S, .int .i64 V] 34))
      clear ha hS hV
      go_upto_region 10 with fail
      change Code.wp _ _ _ _ (wr.alloc (.cells #[.string S, .int .i64 V] 34))
      obtain ⟨r, hr⟩ : ∃ r, r = wr.heap.size := ⟨_, rfl⟩
      rw [← hr] at HM1 ⊢
      clear hr xa ya HB HO1
      generalize wr.alloc (.cells #[.string S, .int .i64 V] 34) = u1 at *
      have x1 := blk_cell HM1.out 1
      cases b with
      | true =>
        go_wp2_with fail
        go_roundw
        case rel => exact ⟨i + 1, by omega, by go_num, ⟨true, rfl, HN1.out⟩, HOA.out, HBA.out⟩
        case measure => simp [intOf]; omega
      | false =>
        rw [Bool.false_or] at HN1
        by_cases hV : 0 < V
        · rw [decide_eq_true hV] at HN1
          go_wp2_with fail
          go_roundw
          case rel => exact ⟨i + 1, by omega, by go_num, ⟨true, rfl, HN1.out⟩, HOA.out, HBA.out⟩
          case measure => simp [intOf]; omega
        · rw [decide_eq_false hV] at HN1
          go_wp2_with fail
          go_roundw
          case rel => exact ⟨i + 1, by omega, by go_num, ⟨false, rfl, HN1.out⟩, HOA.out, HBA.out⟩
          case measure => simp [intOf]; omega
    · obtain rfl : n = i := by omega
      have HBB : Hid (b = true ↔ ordL l ≠ []) := Lib.hid (by
        rw [HBI.out, Ne, HON.out]
        constructor
        · rintro ⟨x, h1, h2⟩ h3
          have := h3 x h1
          omega
        · intro h3
          rcases Classical.em (∃ x, x < n ∧ 0 < (wa l x).w) with q | q
          · exact q
          · exact absurd (fun x h1 => by have h2 : ¬ 0 < (wa l x).w := fun h2 => q ⟨x, h1, h2⟩; omega) h3)
      clear HO HBU
      go_wp2_with fail
      go_loopw [59] (fun vj wr => ∃ j : Nat, j ≤ M ∧ vj = .int .i64 (j : Int) ∧ OwnC wr g 3 1 (some ⟨g, 0, none⟩) n n (iV fun x => (cntI (tabV l M) (x : Int) j : Int)) ∧ Below v.heap.size v wr) (fun vj _ => M - (intOf vj).toNat)
      case atStart => exact ⟨0, Nat.zero_le _, rfl, HO1.out, HB.out⟩
      case round =>
        obtain ⟨j, hj, rfl, ho, hb⟩ := hrel
        have HO2 := Lib.hid ho
        have HB2 := Lib.hid hb
        by_cases hjl : j < M
        · have l1 : (j : Int) < (M : Int) := by omega
          have j0 : (0 : Int) ≤ (j : Int) := by omega
          have j2 : ((j : Int)).toNat = j := by omega
          have zj : IntKind.i64.wrap ((j : Int) + 1) = (j : Int) + 1 := by rw [IntKind.wrap_i64]; omega
          rcases HT.out with h0 | ⟨tb, tof, rfl, htb, htc⟩
          · omega
          have xt := (hb.cell (p := ⟨tb, tof + j, none⟩) htb).trans (htc j hjl)
          unfold iV at xt
          have HSTP : Hid (∀ x : Nat, (cntI (tabV l M) (x : Int) (j + 1) : Int) = (cntI (tabV l M) (x : Int) j : Int) + if tabV l M j = (x : Int) then 1 else 0) := Lib.hid fun x => by
            show ((cntI (tabV l M) (x : Int) j + (if tabV l M j = (x : Int) then 1 else 0) : Nat) : Int) = _
            rw [Int.natCast_add]
            congr 1
            split <;> rfl
          cases b with
          | false =>
            have hon : ordL l = [] := Classical.byContradiction fun q => by
              have := HBB.out.2 q
              cases this
            have e1 := HTN.out hon j
            rw [e1] at xt HSTP
            have HO3 : Hid (OwnC wr g 3 1 (some ⟨g, 0, none⟩) n n (iV fun x => (cntI (tabV l M) (x : Int) (j + 1) : Int))) := Lib.hid (ho.same fun x _ => by
              unfold iV
              dsimp only
              rw [HSTP.out, if_neg (by omega), Int.add_zero])
            clear hon e1 ho hb htc htb
            go_wp2_with fail
            go_roundw
            case rel => exact ⟨j + 1, by omega, by go_num, HO3.out, HB2.out⟩
            case measure => simp [intOf]; omega
          | true =>
            obtain ⟨x, e1, hx, hwx⟩ := HTF.out (HBB.out.1 rfl) j hjl
            rw [e1] at xt HSTP
            obtain ⟨a, ao, e, ha, xa, ya⟩ := HLV.out wr HB2.out x hx
            subst e
            have d1 : ¬ (x : Int) < 0 := by omega
            have d2 : ¬ (n : Int) ≤ (x : Int) := by omega
            have x1 : (x : Int) < (n : Int) := by omega
            have x0 : (0 : Int) ≤ (x : Int) := by omega
            have x2 : ((x : Int)).toNat = x := by omega
            obtain ⟨g', e, _, _, hcc, hfz⟩ := ho.lies (by omega)
            injection e with e
            injection e with e
            subst e
            have xc := hcc x (by omega)
            have xf := hfz x
            unfold iV at xc
            have hcb := cntI_le (tabV l M) (x : Int) j
            obtain ⟨q, hq⟩ : ∃ q : Nat, q = cntI (tabV l M) (x : Int) j := ⟨_, rfl⟩
            have HQ := Lib.hid hq
            simp only [← hq] at xc hcb
            have zq : IntKind.i64.wrap ((q : Int) + 1) = (q : Int) + 1 := by rw [IntKind.wrap_i64]; omega
            have HSET : Hid (OwnC (wr.setCell ⟨g, x, none⟩ (.int .i64 ((q : Int) + 1))) g 3 1 (some ⟨g, 0, none⟩) n n (iV fun x => (cntI (tabV l M) (x : Int) (j + 1) : Int))) := Lib.hid ((HO2.out.set_ x (.int .i64 ((q : Int) + 1))).same fun y _ => by
              unfold updV iV
              dsimp only
              rw [HSTP.out]
              by_cases e : y = x
              · rw [if_pos e, e, if_pos rfl, HQ.out]
              · rw [if_neg e, if_neg (by omega), Int.add_zero])
            have HB3 : Hid (Below v.heap.size v (wr.setCell ⟨g, x, none⟩ (.int .i64 ((q : Int) + 1)))) := Lib.hid (HB2.out.setCell (p := ⟨g, x, none⟩) (by have := HGG.out; show v.heap.size ≤ g; omega) _)
            obtain ⟨V, hV⟩ : ∃ V, V = (wa l x).w := ⟨_, rfl⟩
            rw [← hV] at ya hwx
            have d3 : ¬ V ≤ 0 := by omega
            clear e1 ho hb htc htb hcc hfz hq hV hwx xa
            go_wp2_with fail
            go_roundw
            case rel => exact ⟨j + 1, by omega, by go_num, HSET.out, HB3.out⟩
            case measure => simp [intOf]; omega
        · obtain rfl : M = j := by omega
          have HRS : Hid (∀ W, Below wr.heap.size wr W → ∀ x, x < n → W.cell? ⟨g, x, none⟩ = some (.int .i64 (cntI (tabV l M) (x : Int) M : Int)) ∧ g < wr.heap.size) := Lib.hid fun W h x hx => by
            obtain ⟨g', e, _, hl, hcc, _⟩ := ho.lies (by omega)
            injection e with e
            injection e with e
            subst e
            exact ⟨(h.cell (p := ⟨g, x, none⟩) hl).trans (hcc x (by omega)), hl⟩
          clear ho hb HO1 HB HO2
          go_wp2_with fail
          obtain ⟨z, hz⟩ : ∃ z, z = wr := ⟨_, rfl⟩
          rw [← hz] at HRS HB2 ⊢
          clear hz
          go_loopw [100] (fun vi wr => ∃ i : Nat, i ≤ n ∧ vi = .int .i64 (i : Int) ∧ Below z.heap.size z wr) (fun vi _ => n - (intOf vi).toNat)
          case atStart => exact ⟨0, Nat.zero_le _, rfl, Below.refl _ _⟩
          case round =>
            obtain ⟨i, hi, rfl, hb⟩ := hrel
            have HB4 := Lib.hid hb
            by_cases hil : i < n
            · have l1 : (i : Int) < (n : Int) := by omega
              have i0 : (0 : Int) ≤ (i : Int) := by omega
              have i2 : ((i : Int)).toNat = i := by omega
              have zi : IntKind.i64.wrap ((i : Int) + 1) = (i : Int) + 1 := by rw [IntKind.wrap_i64]; omega
              obtain ⟨a, ao, e, ha, xa, ya⟩ := HLV.out wr (HB2.out.trans (hb.mono HB2.out.size)) i hil
              subst e
              have hwi := HOW.out i hil
              have HSI := Lib.hid fun k hk => HSH.out i k hil hk
              obtain ⟨S, hS⟩ : ∃ S, S = (wa l i).s := ⟨_, rfl⟩
              obtain ⟨V, hV⟩ : ∃ V, V = (wa l i).w := ⟨_, rfl⟩
              rw [← hS] at xa
              rw [← hV] at ya hwi HSI
              have HM1 : Hid ((wr.alloc (.cells #[.string S, .int .i64 V] 34)).heap[wr.heap.size]? = some (.cells #[.string S, .int .i64 V] 34 (0, 0))) := Lib.hid (heap_alloc_new wr _)
              have HB5 : Hid (Below z.heap.size z (wr.alloc (.cells #[.string S, .int .i64 V] 34))) := Lib.hid (HB4.out.alloc HB4.out.size _)
              have HWI := Lib.hid hwi
              clear ha hS hV hb hwi
              go_upto_region 24 with fail
              change Code.wp _ _ _ _ (wr.alloc (.cells #[.string S, .int .i64 V] 34))
              obtain ⟨r, hr⟩ : ∃ r, r = wr.heap.size := ⟨_, rfl⟩
              rw [← hr] at HM1 ⊢
              clear hr xa ya
              generalize wr.alloc (.cells #[.string S, .int .i64 V] 34) = u1 at *
              go_wp2_with fail
              go_loopw [107] (fun vk wr => ∃ k : Nat, k ≤ n ∧ vk = .int .i64 (k : Int) ∧ wr.heap[r]? = some (.cells #[.string S, .int .i64 V] 34 (0, 0)) ∧ Below z.heap.size z wr) (fun vk _ => n - (intOf vk).toNat)
              case atStart => exact ⟨0, Nat.zero_le _, rfl, HM1.out, HB5.out⟩
              case round =>
                obtain ⟨k, hk, rfl, hm1, hb⟩ := hrel
                have HB6 := Lib.hid hb
                have HM2 := Lib.hid hm1
                by_cases hkl : k < n
                · have l2 : (k : Int) < (n : Int) := by omega
                  have k0 : (0 : Int) ≤ (k : Int) := by omega
                  have k2 : ((k : Int)).toNat = k := by omega
                  have zk : IntKind.i64.wrap ((k : Int) + 1) = (k : Int) + 1 := by rw [IntKind.wrap_i64]; omega
                  obtain ⟨a2, ao2, e, ha, xa, ya⟩ := HLV.out wr (HB2.out.trans (hb.mono HB2.out.size)) k hkl
                  injection e with e
                  injection e with e e'
                  subst e
                  subst e'
                  have hwk := HOW.out k hkl
                  have HSK := Lib.hid (HSI.out k hkl)
                  obtain ⟨S2, hS⟩ : ∃ S2, S2 = (wa l k).s := ⟨_, rfl⟩
                  obtain ⟨V2, hV⟩ : ∃ V2, V2 = (wa l k).w := ⟨_, rfl⟩
                  rw [← hS] at xa
                  rw [← hV] at ya hwk HSK
                  have HM3 : Hid ((wr.alloc (.cells #[.string S2, .int .i64 V2] 34)).heap[wr.heap.size]? = some (.cells #[.string S2, .int .i64 V2] 34 (0, 0))) := Lib.hid (heap_alloc_new wr _)
                  have HM4 := Lib.hid (blk_old hm1 (.cells #[.string S2, .int .i64 V2] 34))
                  have HB7 : Hid (Below z.heap.size z (wr.alloc (.cells #[.string S2, .int .i64 V2] 34))) := Lib.hid (HB6.out.alloc HB6.out.size _)
                  have HWK := Lib.hid hwk
                  clear ha hS hV hb hwk hm1
                  go_upto_region 27 with fail
                  change Code.wp _ _ _ _ (wr.alloc (.cells #[.string S2, .int .i64 V2] 34))
                  obtain ⟨r2, hr⟩ : ∃ r2, r2 = wr.heap.size := ⟨_, rfl⟩
                  rw [← hr] at HM3 ⊢
                  clear hr xa ya HB6 HM2
                  generalize wr.alloc (.cells #[.string S2, .int .i64 V2] 34) = u2 at *
                  have x1 := blk_cell HM4.out 1
                  have y1 := blk_cell HM3.out 1
                  by_cases c1 : 0 < V
                  · by_cases c2 : 0 < V2
                    · have z1 := (HRS.out u2 HB7.out i hil).1
                      have z2 := (HRS.out u2 HB7.out k hkl).1
                      have hS := HSK.out c1 c2
                      have hb1 := cntI_le (tabV l M) (i : Int) M
                      have hb2 := cntI_le (tabV l M) (k : Int) M
                      obtain ⟨q1, hq1⟩ : ∃ q1 : Nat, q1 = cntI (tabV l M) (i : Int) M := ⟨_, rfl⟩
                      obtain ⟨q2, hq2⟩ : ∃ q2 : Nat, q2 = cntI (tabV l M) (k : Int) M := ⟨_, rfl⟩
                      rw [← hq1] at z1 hS hb1
                      rw [← hq2] at z2 hS hb2
                      have hw1 := HWI.out
                      have hw2 := HWK.out
                      have m1 := mul_bd (X := (q1 : Int)) (W := V2) (by omega) hw2
                      have m2 := mul_bd (X := (q2 : Int)) (W := V) (by omega) hw1
                      have m3 := mul_bd (X := V) (W := V2) (by omega) hw2
                      obtain ⟨p1, hp1⟩ : ∃ p1, p1 = (q1 : Int) * V2 := ⟨_, rfl⟩
                      obtain ⟨p2, hp2⟩ : ∃ p2, p2 = (q2 : Int) * V := ⟨_, rfl⟩
                      obtain ⟨p3, hp3⟩ : ∃ p3, p3 = V * V2 := ⟨_, rfl⟩
                      rw [← hp1] at m1 hS
                      rw [← hp2] at m2 hS
                      rw [← hp3] at m3 hS
                      have w1 : IntKind.i64.wrap ((q1 : Int) * V2) = p1 := by rw [← hp1, IntKind.wrap_i64]; omega
                      have w2 : IntKind.i64.wrap ((q2 : Int) * V) = p2 := by rw [← hp2, IntKind.wrap_i64]; omega
                      have w3 : IntKind.i64.wrap (V * V2) = p3 := by rw [← hp3, IntKind.wrap_i64]; omega
                      have w4 : IntKind.i64.wrap (p1 - p2) = p1 - p2 := by rw [IntKind.wrap_i64]; omega
                      have d1 : ¬ p3 < p1 - p2 := by omega
                      clear hp1 hp2 hp3 hq1 hq2 m1 m2 m3 hS
                      go_quiet (fail)
                      go_wp2_with fail
                      go_roundw
                      case rel => exact ⟨k + 1, by omega, by go_num, HM4.out, below_drewN HB7.out _⟩
                      case measure => simp [intOf]; omega
                    · go_quiet (fail)
                      go_wp2_with fail
                      go_roundw
                      case rel => exact ⟨k + 1, by omega, by go_num, HM4.out, below_drewN HB7.out _⟩
                      case measure => simp [intOf]; omega
                  · go_quiet (fail)
                    go_wp2_with fail
                    go_roundw
                    case rel => exact ⟨k + 1, by omega, by go_num, HM4.out, below_drewN HB7.out _⟩
                    case measure => simp [intOf]; omega
                · obtain rfl : n = k := by omega
                  clear hb hm1
                  go_wp2_with fail
                  go_roundw
                  case rel => exact ⟨i + 1, by omega, by go_num, HB6.out⟩
                  case measure => simp [intOf]; omega
            · obtain rfl : n = i := by omega
              clear hb
              go_wp2_with (first
                | (go_at_call 7
                   refine (HK.out _).mono ?_
                   rintro e u3 ⟨rfl, hb⟩
                   have HB9 := Lib.hid (HB4.out.trans (hb.mono HB4.out.size))
                   clear hb))
              go_ret
              exact ⟨rfl, HBV.out.trans ((HB2.out.trans (HB9.out.mono HB2.out.size)).mono HBV.out.size)⟩
end Go.Proofs.Ytfchmmojhfjibaa
