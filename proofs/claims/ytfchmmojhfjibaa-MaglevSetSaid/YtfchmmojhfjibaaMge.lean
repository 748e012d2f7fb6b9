/- Stage 19: the document's Order. -/
import Derived.Test.YtfchmmojhfjibaaMgd
import Derived.Test.YtfchmmojhfjibaaPqd
namespace Go.Proofs.Ytfchmmojhfjibaa
set_option maxRecDepth 100000
open Go.RowKit Go.Shelf
theorem RdC.cut {w : World} {B n lo : Nat} {A : Option Addr} {f : Nat → Value} (h : RdC w B A n f) (hn : lo ≤ n) (D : Option Addr) (hD : ∀ b off, A = some ⟨b, off, none⟩ → lo < n → D = some ⟨b, off + lo, none⟩) : RdC w B D (n - lo) (fun k => f (lo + k)) := by
  rcases h with h | ⟨b, off, e, hb, hc⟩
  · exact .inl (by omega)
  · rcases (show lo < n ∨ lo = n by omega) with q | q
    · exact .inr ⟨b, off + lo, hD b off e q, hb, fun k hk => by rw [Nat.add_assoc]; exact hc _ (by omega)⟩
    · exact .inl (by omega)
theorem slice_toI (A : Option Addr) (n c hi : Nat) (h2 : hi ≤ n) (h3 : n ≤ c) (_h4 : c ≤ 9223372036854775807) : ∃ D : Option Addr,
    (∀ W, (Instr.sliceAt 23 (.slice A n c) none (some (.int .i64 (hi : Int))) none).run Try.prog W = .ok (.slice D hi c) W) ∧ (∀ (W : World) (B : Nat) (f : Nat → Value), RdC W B A n f → RdC W B D hi f) := by
  have i1 : (0 : Int) ≤ (hi : Int) := by omega
  have i2 : (hi : Int) ≤ (c : Int) := by omega
  have i3 : (hi : Int) ≤ (n : Int) := by omega
  have hid : ∀ A : Option Addr, Option.map (fun x => Addr.add x 0) A = A := fun A => by
    rcases A with _ | ⟨b, o, i⟩
    · rfl
    · cases i <;> simp [Addr.add]
  refine ⟨if c = 0 then A else Option.map (fun x => x.add 0) A, fun W => ?_, fun W B f hr => ?_⟩
  · go_simp
  · rw [hid, ite_self]
    exact hr.less h2
theorem slice_anyI (A : Option Addr) (n c lo : Nat) (h2 : lo ≤ n) (h3 : n ≤ c) (_h4 : c ≤ 9223372036854775807) : ∃ D : Option Addr,
    (∀ W, (Instr.sliceAt 23 (.slice A n c) (some (.int .i64 (lo : Int))) none none).run Try.prog W = .ok (.slice D (n - lo) (c - lo)) W) ∧ (∀ (W : World) (B : Nat) (f : Nat → Value), RdC W B A n f → RdC W B D (n - lo) (fun k => f (lo + k))) := by
  have i1 : (0 : Int) ≤ (lo : Int) := by omega
  have i2 : (lo : Int) ≤ (n : Int) := by omega
  have i3 : (n : Int) ≤ (c : Int) := by omega
  have i4 : (0 : Int) ≤ (n : Int) := by omega
  have i5 : (lo : Int) ≤ (c : Int) := by omega
  refine ⟨if c = lo then A else Option.map (fun x => x.add lo) A, fun W => ?_, fun W B f hr => hr.cut h2 _ fun b off e q => ?_⟩
  · go_simp
  · rw [if_neg (by omega), e]
    simp [Addr.add]
/-- A row of numbers, as cells. -/
def oV (o : List Nat) (j : Nat) : Value := .int .i64 (oa o j : Int)
theorem oa_ins (o : List Nat) (k i j : Nat) (hk : k ≤ o.length) : oa (o.take k ++ i :: o.drop k) j = if j < k then oa o j else if j = k then i else oa o (j - 1) := by
  unfold oa
  have hl : (o.take k).length = k := by rw [List.length_take]; omega
  by_cases h : j < k
  · rw [if_pos h, List.getElem?_append_left (by omega), List.getElem?_take, if_pos h]
  · rw [if_neg h, List.getElem?_append_right (by omega), hl]
    by_cases e : j = k
    · rw [if_pos e, e, Nat.sub_self]
      rfl
    · rw [if_neg e, show j - k = (j - k - 1) + 1 by omega, List.getElem?_cons_succ, List.getElem?_drop, show k + (j - k - 1) = j - 1 by omega]
theorem ins_len (o : List Nat) (k i : Nat) (hk : k ≤ o.length) : (o.take k ++ i :: o.drop k).length = o.length + 1 := by
  rw [List.length_append, List.length_take, List.length_cons, List.length_drop]
  omega
set_option maxHeartbeats 2000000 in
theorem rorder_any (l : List Wt) (A : Option Addr) (c : Nat) (w : World) (h : Lw w w.heap.size A c l) : Calls Try.prog 12 #[.slice A l.length c] w fun e w' => ∃ A2 c2, e = .returned (.slice A2 (ordL l).length c2) ∧ OwnC w' w.heap.size 3 1 A2 (ordL l).length c2 (oV (ordL l)) ∧ Below w.heap.size w w' := by
  have HL := Lib.hid h
  have hn9 : l.length ≤ 100000 := h.few
  unfold ordL
  obtain ⟨n, hn⟩ : ∃ n, n = l.length := ⟨_, rfl⟩
  rw [← hn] at hn9 ⊢
  have HNN := Lib.hid hn
  obtain ⟨ii, hi0, hz0, hz1, hz2⟩ := info_parts Try.infoIT
  have HI0 := Lib.hid hi0
  have HZ0 := Lib.hid hz0
  have HZ1 := Lib.hid hz1
  have HZ2 := Lib.hid hz2
  clear hn h hi0 hz0 hz1 hz2
  go_enter Try.func12, Try.ntmps12
  go_wp2_with fail
  go_loopw [3, 4] (fun vs vi wr => ∃ (i : Nat) (A2 : Option Addr) (c2 : Nat), i ≤ n ∧ vs = .slice A2 (ordN l i).length c2 ∧ vi = .int .i64 (i : Int) ∧ OwnC wr w.heap.size 3 1 A2 (ordN l i).length c2 (oV (ordN l i)) ∧ Below w.heap.size w wr) (fun _ vi _ => n - (intOf vi).toNat)
  case atStart => exact ⟨0, none, 0, Nat.zero_le _, rfl, rfl, OwnC.nil_ _ _ _ _ _, Below.refl _ _⟩
  case round =>
    obtain ⟨i, A2, c2, hi, rfl, rfl, ho, hb⟩ := hrel
    have HO := Lib.hid ho
    have HB := Lib.hid hb
    have HOL := Lib.hid (ordN_len l i)
    have HMEM : Hid (∀ k, k < (ordN l i).length → oa (ordN l i) k < i) := Lib.hid fun k hk => (((ordN_srt l i).mem _).1 (oa_mem hk)).1
    have HSC : Hid (ordN l (i + 1) = if 0 < (wa l i).w then insO l (ordN l i) i else ordN l i) := Lib.hid rfl
    have HCUT := Lib.hid fun k => cutN_is l (wa l i).s (ordN l i) k
    obtain ⟨o, ho'⟩ : ∃ o, o = ordN l i := ⟨_, rfl⟩
    rw [← ho'] at HO HOL HMEM HSC HCUT ⊢
    obtain ⟨L, hL⟩ : ∃ L, L = o.length := ⟨_, rfl⟩
    rw [← hL] at HO HOL HMEM HCUT ⊢
    have HLL := Lib.hid hL
    have HOO := Lib.hid ho'
    have hc2 : c2 ≤ 9223372036854775807 := Nat.le_trans HO.out.cap_le (by unfold maxLen; omega)
    have hLc := HO.out.cap
    have hLn : L ≤ i := HOL.out
    clear ho hb ho' hL
    by_cases hlt : i < n
    · have l1 : (i : Int) < (n : Int) := by omega
      obtain ⟨b, off, rfl, hbb, hc⟩ := HL.out.at_ (i := i) (by rw [← HNN.out]; exact hlt)
      have HBB := Lib.hid hbb
      have HC := Lib.hid hc
      clear hc hbb
      have i0 : (0 : Int) ≤ (i : Int) := by omega
      have i2 : ((i : Int)).toNat = i := by omega
      have zi : IntKind.i64.wrap ((i : Int) + 1) = (i : Int) + 1 := by rw [IntKind.wrap_i64]; omega
      have x1 := (HB.out.cell (p := ⟨b, off + i * 2 + 1, none⟩) HBB.out).trans (HC.out i (by rw [← HNN.out]; omega)).2
      obtain ⟨W, hW⟩ : ∃ W, W = (wa l i).w := ⟨_, rfl⟩
      rw [← hW] at x1 HSC
      clear hW
      by_cases hw : 0 < W
      · have d1 : ¬ W ≤ 0 := by omega
        have HS2 : Hid (ordN l (i + 1) = insO l o i) := Lib.hid (by rw [HSC.out, if_pos hw])
        go_wp2_with fail
        go_loopw [5] (fun vk wq => ∃ k : Nat, k ≤ L ∧ vk = .int .i64 (k : Int) ∧ (∀ x, x < k → leB (wa l (oa o x)).s (wa l i).s = true) ∧ OwnC wq w.heap.size 3 1 A2 L c2 (oV o) ∧ Below w.heap.size w wq) (fun vk _ => L - (intOf vk).toNat)
        case atStart => exact ⟨0, Nat.zero_le _, rfl, fun x hx => by omega, HO.out, HB.out⟩
        case round =>
          obtain ⟨k, hk, rfl, h3, ho, hb⟩ := hrel
          have HO3 := Lib.hid ho
          have HB3 := Lib.hid hb
          have H3 := Lib.hid h3
          clear h3
          by_cases hkl : k < L
          · have l2 : (k : Int) < (L : Int) := by omega
            have k0 : (0 : Int) ≤ (k : Int) := by omega
            have k2 : ((k : Int)).toNat = k := by omega
            have zk : IntKind.i64.wrap ((k : Int) + 1) = (k : Int) + 1 := by rw [IntKind.wrap_i64]; omega
            obtain ⟨g, e, hgb, hgl, hcc, _⟩ := ho.lies (by omega)
            have xo := hcc k (by omega)
            unfold oV at xo
            have hok := HMEM.out k hkl
            obtain ⟨p, hp⟩ : ∃ p, p = oa o k := ⟨_, rfl⟩
            rw [← hp] at xo hok
            have HP := Lib.hid hp
            have p1 : (p : Int) < (n : Int) := by omega
            have p0 : (0 : Int) ≤ (p : Int) := by omega
            have p2 : ((p : Int)).toNat = p := by omega
            have xp := (hb.cell (p := ⟨b, off + p * 2, none⟩) HBB.out).trans (HC.out p (by rw [← HNN.out]; omega)).1
            have xi := (hb.cell (p := ⟨b, off + i * 2, none⟩) HBB.out).trans (HC.out i (by rw [← HNN.out]; omega)).1
            have HBL : Hid (leB (wa l p).s (wa l i).s = (Op.bytesLess (wa l p).s.toList (wa l i).s.toList || (wa l p).s.toList == (wa l i).s.toList)) := Lib.hid rfl
            obtain ⟨S, hS⟩ : ∃ S, S = (wa l p).s := ⟨_, rfl⟩
            obtain ⟨U, hU⟩ : ∃ U, U = (wa l i).s := ⟨_, rfl⟩
            rw [← hS] at xp HBL
            rw [← hU] at xi HBL
            have HSU : Hid (S = (wa l p).s ∧ U = (wa l i).s) := Lib.hid ⟨hS, hU⟩
            subst e
            obtain ⟨r1, q1⟩ : ∃ r1, Op.bytesLess S.toList U.toList = r1 := ⟨_, rfl⟩
            obtain ⟨r2, q2⟩ : ∃ r2, (S.toList == U.toList) = r2 := ⟨_, rfl⟩
            rw [q1, q2] at HBL
            clear hS hU hb ho hcc hp hgl hgb
            by_cases hle : (r1 || r2) = true
            · have HLE : Hid (leB (wa l (oa o k)).s (wa l i).s = true) := Lib.hid (by rw [← HP.out, ← HSU.out.1, ← HSU.out.2, HBL.out]; exact hle)
              have HFIN : Hid (∀ x, x < k + 1 → leB (wa l (oa o x)).s (wa l i).s = true) := Lib.hid fun x hx => by
                rcases (show x < k ∨ x = k by omega) with q | rfl
                · exact H3.out x q
                · exact HLE.out
              cases r1 <;> cases r2 <;> first | (cases hle; done) | skip
              all_goals
                clear hle
                go_upto_region 7 with fail
                go_quiet (fail)
                go_wp2_with fail
                go_roundw
                case rel => exact ⟨k + 1, by omega, by go_num, HFIN.out, HO3.out, below_drewN HB3.out _⟩
                case measure => simp [intOf]; omega
            · have HLE : Hid (leB (wa l (oa o k)).s (wa l i).s = false) := Lib.hid (by rw [← HP.out, ← HSU.out.1, ← HSU.out.2, HBL.out]; simpa using hle)
              obtain rfl : r1 = false := by cases r1 <;> simp_all
              obtain rfl : r2 = false := by cases r2 <;> simp_all
              clear hle
              have HK : Hid (cutN l (wa l i).s o = k) := Lib.hid (HCUT.out k hk H3.out fun _ => HLE.out)
              go_upto_region 7 with fail
              go_quiet (fail)
              have HO4 : Hid (OwnC (wr.drewN nq) w.heap.size 3 1 (some ⟨g, 0, none⟩) L c2 (oV o)) := Lib.hid HO3.out
              have HB4 : Hid (Below w.heap.size w (wr.drewN nq)) := Lib.hid (below_drewN HB3.out nq)
              clear HO3 HB3 xo xp xi q1 q2
              generalize wr.drewN nq = u at *
              obtain ⟨D1, hs1, hr1⟩ := slice_toI (some ⟨g, 0, none⟩) L c2 k hk hLc hc2
              obtain ⟨D2, hs2, hr2⟩ := slice_anyI (some ⟨g, 0, none⟩) L c2 k hk hLc hc2
              have HRO := Lib.hid HO4.out.rd
              have HR1 : Hid (RdC (u.alloc (.cells #[] 3)) (u.alloc (.cells #[] 3)).heap.size D1 (k * 1) (oV o)) := Lib.hid (by
                have := HRO.out
                rw [Nat.mul_one] at this ⊢
                exact ((hr1 _ _ _ this).keep (below_alloc u _)).more (alloc_le u _))
              have HR2 : Hid (∀ v : World, Below u.heap.size u v → RdC v v.heap.size D2 ((L - k) * 1) (fun j => oV o (k + j))) := Lib.hid fun v hb => by
                have := HRO.out
                rw [Nat.mul_one] at this ⊢
                exact ((hr2 _ _ _ this).keep hb).more hb.size
              have HOF : Hid (OwnC (u.alloc (.cells #[] 3)) u.heap.size 3 1 (some ⟨u.heap.size, 0, none⟩) 0 0 (oV o)) := Lib.hid (OwnC.fresh u _ _ rfl (Nat.le_refl _) _ _ _)
              have HLN : Hid ((ordN l (i + 1)).length = k + 1 + (L - k)) := Lib.hid (by
                rw [HS2.out]
                unfold insO
                rw [HK.out, ins_len _ _ _ (by rw [← HLL.out]; exact hk), ← HLL.out]
                omega)
              have HVN : Hid (∀ j, oV (ordN l (i + 1)) j = catV ((k + 1) * 1) (catV (k * 1) (oV o) (fun _ => .int .i64 (i : Int))) (fun j => oV o (k + j)) j) := Lib.hid fun j => by
                rw [HS2.out]
                unfold insO oV catV
                rw [HK.out, oa_ins _ _ _ _ (by rw [← HLL.out]; exact hk), Nat.mul_one, Nat.mul_one]
                by_cases e1 : j < k
                · rw [if_pos e1, if_pos (by omega), if_pos e1]
                · rw [if_neg e1]
                  by_cases e2 : j = k
                  · rw [if_pos e2, if_pos (by omega), if_neg e1]
                  · rw [if_neg e2, if_neg (by omega), show (fun j => Value.int IntKind.i64 (oa o (k + j) : Int)) (j - (k + 1)) = Value.int IntKind.i64 (oa o (j - 1) : Int) by show Value.int IntKind.i64 (oa o (k + (j - (k + 1))) : Int) = _; rw [show k + (j - (k + 1)) = j - 1 by omega]]
              clear hr1 hr2 HRO
              go_wp2_with (first
                | (at_builtin
                   refine wpList_append_vals rfl (.tmp 41) (.tmp 44) 23 rfl u.heap.size 3 ii (.int .i64 0) 1 Try.underlying23 HI0.out HZ0.out HZ1.out rfl (by decide) rfl HOF.out rfl HR1.out (fun _ _ => rfl) (by unfold maxLen; omega) (by rw [HZ2.out]; omega) (alloc_le u _) ?_
                   intro A5 c5 u5 hown5 hg5 _
                   have HO5 : Hid (OwnC u5 u.heap.size 3 1 A5 k c5 (oV o)) := Lib.hid (by
                     rw [Nat.zero_add] at hown5
                     exact hown5.same fun j _ => by unfold catV; rw [if_neg (by omega)]; rfl)
                   have HB5 : Hid (Below u.heap.size u u5) := Lib.hid ((below_alloc u _).grown hg5 (alloc_le u _) fun k hk => HOF.out.at_ k hk)
                   rw [Nat.zero_add]
                   have HO6 := Lib.hid (HO5.out.alloc (.cells #[.int .i64 (i : Int)] 3))
                   have HB6 := Lib.hid (HB5.out.alloc HB5.out.size (.cells #[.int .i64 (i : Int)] 3))
                   have HR6 : Hid (RdC (u5.alloc (.cells #[.int .i64 (i : Int)] 3)) (u5.alloc (.cells #[.int .i64 (i : Int)] 3)).heap.size (some ⟨u5.heap.size, 0, none⟩) (1 * 1) (fun _ => .int .i64 (i : Int))) := Lib.hid (.inr ⟨_, 0, rfl, by simp, fun j hj => by
                     obtain rfl : j = 0 := by omega
                     exact blk_cell (heap_alloc_new u5 _) 0⟩)
                   clear hown5 hg5)
                | (at_builtin
                   refine wpList_append_vals rfl (.tmp 46) (.tmp 48) 23 rfl u.heap.size 3 ii (.int .i64 0) 1 Try.underlying23 HI0.out HZ0.out HZ1.out rfl (by decide) rfl HO6.out rfl HR6.out (fun _ _ => rfl) (by unfold maxLen; omega) (by rw [HZ2.out]; omega) HB6.out.size ?_
                   intro A7 c7 u7 hown7 hg7 _
                   have HO7 := Lib.hid hown7
                   have HB7 : Hid (Below u.heap.size u u7) := Lib.hid (HB6.out.grown hg7 HB6.out.size fun k hk => HO6.out.at_ k hk)
                   have HR7 := Lib.hid (HR2.out u7 HB7.out)
                   clear hown7 hg7)
                | (at_builtin
                   refine wpList_append_vals rfl (.tmp 50) (.tmp 53) 23 rfl u.heap.size 3 ii (.int .i64 0) 1 Try.underlying23 HI0.out HZ0.out HZ1.out rfl (by decide) rfl HO7.out rfl HR7.out (fun _ _ => rfl) (by unfold maxLen; omega) (by rw [HZ2.out]; omega) HB7.out.size ?_
                   intro A9 c9 u9 hown9 hg9 _
                   have HO9 : Hid (OwnC u9 u.heap.size 3 1 A9 (ordN l (i + 1)).length c9 (oV (ordN l (i + 1)))) := Lib.hid (by
                     rw [HLN.out]
                     exact hown9.same fun j _ => HVN.out j)
                   have HB9 : Hid (Below u.heap.size u u9) := Lib.hid (HB7.out.grown hg9 HB7.out.size fun k hk => HO7.out.at_ k hk)
                   clear hown9 hg9))
              go_roundw
              case rel => exact ⟨i + 1, A9, c9, by omega, by rw [HLN.out], by go_num, HO9.out.le HB4.out.size, HB4.out.trans (HB9.out.mono HB4.out.size)⟩
              case measure => simp [intOf]; omega
          · obtain rfl : k = L := by omega
            have l2 : ¬ (k : Int) < (k : Int) := by omega
            clear ho hb
            have HK : Hid (cutN l (wa l i).s o = k) := Lib.hid (HCUT.out k hk H3.out fun q => by omega)
            go_upto_region 7 with fail
            go_quiet (fail)
            have HO4 : Hid (OwnC (wr.drewN nq) w.heap.size 3 1 A2 k c2 (oV o)) := Lib.hid HO3.out
            have HB4 : Hid (Below w.heap.size w (wr.drewN nq)) := Lib.hid (below_drewN HB3.out nq)
            clear HO3 HB3 l2
            generalize wr.drewN nq = u at *
            obtain ⟨D1, hs1, hr1⟩ := slice_toI A2 k c2 k hk hLc hc2
            obtain ⟨D2, hs2, hr2⟩ := slice_anyI A2 k c2 k hk hLc hc2
            simp only [Nat.sub_self] at hs2 hr2
            have HRO := Lib.hid HO4.out.rd
            have HR1 : Hid (RdC (u.alloc (.cells #[] 3)) (u.alloc (.cells #[] 3)).heap.size D1 (k * 1) (oV o)) := Lib.hid (by
              have := HRO.out
              rw [Nat.mul_one] at this ⊢
              exact ((hr1 _ _ _ this).keep (below_alloc u _)).more (alloc_le u _))
            have HR2 : Hid (∀ v : World, Below u.heap.size u v → RdC v v.heap.size D2 (0 * 1) (fun j => oV o (k + j))) := Lib.hid fun v hb => by
              have := HRO.out
              rw [Nat.mul_one] at this
              exact ((hr2 _ _ _ this).keep hb).more hb.size
            have HOF : Hid (OwnC (u.alloc (.cells #[] 3)) u.heap.size 3 1 (some ⟨u.heap.size, 0, none⟩) 0 0 (oV o)) := Lib.hid (OwnC.fresh u _ _ rfl (Nat.le_refl _) _ _ _)
            have HLN : Hid ((ordN l (i + 1)).length = k + 1) := Lib.hid (by
              rw [HS2.out]
              unfold insO
              rw [HK.out, ins_len _ _ _ (by rw [← HLL.out]; exact hk), ← HLL.out])
            have HVN : Hid (∀ j, oV (ordN l (i + 1)) j = catV ((k + 1) * 1) (catV (k * 1) (oV o) (fun _ => .int .i64 (i : Int))) (fun j => oV o (k + j)) j) := Lib.hid fun j => by
              rw [HS2.out]
              unfold insO oV catV
              rw [HK.out, oa_ins _ _ _ _ (by rw [← HLL.out]; exact hk), Nat.mul_one, Nat.mul_one]
              by_cases e1 : j < k
              · rw [if_pos e1, if_pos (by omega), if_pos e1]
              · rw [if_neg e1]
                by_cases e2 : j = k
                · rw [if_pos e2, if_pos (by omega), if_neg e1]
                · rw [if_neg e2, if_neg (by omega), show (fun j => Value.int IntKind.i64 (oa o (k + j) : Int)) (j - (k + 1)) = Value.int IntKind.i64 (oa o (j - 1) : Int) by show Value.int IntKind.i64 (oa o (k + (j - (k + 1))) : Int) = _; rw [show k + (j - (k + 1)) = j - 1 by omega]]
            clear hr1 hr2 HRO
            go_wp2_with (first
              | (at_builtin
                 refine wpList_append_vals rfl (.tmp 41) (.tmp 44) 23 rfl u.heap.size 3 ii (.int .i64 0) 1 Try.underlying23 HI0.out HZ0.out HZ1.out rfl (by decide) rfl HOF.out rfl HR1.out (fun _ _ => rfl) (by unfold maxLen; omega) (by rw [HZ2.out]; omega) (alloc_le u _) ?_
                 intro A5 c5 u5 hown5 hg5 _
                 have HO5 : Hid (OwnC u5 u.heap.size 3 1 A5 k c5 (oV o)) := Lib.hid (by
                   rw [Nat.zero_add] at hown5
                   exact hown5.same fun j _ => by unfold catV; rw [if_neg (by omega)]; rfl)
                 have HB5 : Hid (Below u.heap.size u u5) := Lib.hid ((below_alloc u _).grown hg5 (alloc_le u _) fun k hk => HOF.out.at_ k hk)
                 rw [Nat.zero_add]
                 have HO6 := Lib.hid (HO5.out.alloc (.cells #[.int .i64 (i : Int)] 3))
                 have HB6 := Lib.hid (HB5.out.alloc HB5.out.size (.cells #[.int .i64 (i : Int)] 3))
                 have HR6 : Hid (RdC (u5.alloc (.cells #[.int .i64 (i : Int)] 3)) (u5.alloc (.cells #[.int .i64 (i : Int)] 3)).heap.size (some ⟨u5.heap.size, 0, none⟩) (1 * 1) (fun _ => .int .i64 (i : Int))) := Lib.hid (.inr ⟨_, 0, rfl, by simp, fun j hj => by
                   obtain rfl : j = 0 := by omega
                   exact blk_cell (heap_alloc_new u5 _) 0⟩)
                 clear hown5 hg5)
              | (at_builtin
                 refine wpList_append_vals rfl (.tmp 46) (.tmp 48) 23 rfl u.heap.size 3 ii (.int .i64 0) 1 Try.underlying23 HI0.out HZ0.out HZ1.out rfl (by decide) rfl HO6.out rfl HR6.out (fun _ _ => rfl) (by unfold maxLen; omega) (by rw [HZ2.out]; omega) HB6.out.size ?_
                 intro A7 c7 u7 hown7 hg7 _
                 have HO7 := Lib.hid hown7
                 have HB7 : Hid (Below u.heap.size u u7) := Lib.hid (HB6.out.grown hg7 HB6.out.size fun k hk => HO6.out.at_ k hk)
                 have HR7 := Lib.hid (HR2.out u7 HB7.out)
                 clear hown7 hg7)
              | (at_builtin
                 refine wpList_append_vals rfl (.tmp 50) (.tmp 53) 23 rfl u.heap.size 3 ii (.int .i64 0) 1 Try.underlying23 HI0.out HZ0.out HZ1.out rfl (by decide) rfl HO7.out rfl HR7.out (fun _ _ => rfl) (by unfold maxLen; omega) (by rw [HZ2.out]; omega) HB7.out.size ?_
                 intro A9 c9 u9 hown9 hg9 _
                 have HO9 : Hid (OwnC u9 u.heap.size 3 1 A9 (ordN l (i + 1)).length c9 (oV (ordN l (i + 1)))) := Lib.hid (by
                   rw [HLN.out]
                   exact hown9.same fun j _ => HVN.out j)
                 have HB9 : Hid (Below u.heap.size u u9) := Lib.hid (HB7.out.grown hg9 HB7.out.size fun k hk => HO7.out.at_ k hk)
                 clear hown9 hg9))
            go_roundw
            case rel => exact ⟨i + 1, A9, c9, by omega, by rw [HLN.out], by go_num, HO9.out.le HB4.out.size, HB4.out.trans (HB9.out.mono HB4.out.size)⟩
            case measure => simp [intOf]; omega
      · have d1 : W ≤ 0 := by omega
        have HS2 : Hid (ordN l (i + 1) = o) := Lib.hid (by rw [HSC.out, if_neg hw])
        go_wp2_with fail
        go_roundw
        case rel => exact ⟨i + 1, A2, c2, by omega, by rw [HS2.out, ← HLL.out], by go_num, by rw [HS2.out, ← HLL.out]; exact HO.out, HB.out⟩
        case measure => simp [intOf]; omega
    · obtain rfl : i = n := by omega
      go_wp2_with fail
      go_ret
      exact ⟨A2, c2, by rw [← HOO.out, ← HLL.out]; rfl, by rw [← HOO.out, ← HLL.out]; exact HO.out, HB.out⟩
end Go.Proofs.Ytfchmmojhfjibaa
