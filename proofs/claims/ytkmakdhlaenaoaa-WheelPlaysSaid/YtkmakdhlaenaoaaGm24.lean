import Derived.Test.YtkmakdhlaenaoaaGm23
/- Stage 11: the landed empty. -/
namespace Go.Proofs.Ytkmakdhlaenaoaa
set_option maxRecDepth 100000
open Go.RowKit Go.Shelf
theorem Sl.fit_drop {S : Sl} (hS : S.Fit) {q : Nat} (hq : q < S.ls.length) (j : Nat) : (S.put q ((S.at_ q).drop j)).Fit :=
  ⟨Sl.ok_put hS.ok hq ((hS.ok.nodup q).sublist (List.drop_sublist ..)) (fun c h => hS.ok.low q c (List.mem_of_mem_drop h)) (fun c k h hk => hS.ok.one _ _ _ hk (List.mem_of_mem_drop h)), hS.m, by rw [Sl.put_len]; exact hS.n⟩
/-- A row of one's own, beside the wheel, turned. -/
theorem Ext.own {F F' : Nat → Prop} {w w' w'' : World} (h : Ext F F' w w') {row : Option Nat} (hg : w'.grownBy w'' row) (hlo : ∀ k, row = some k → w.heap.size ≤ k) : Ext F F' w w'' := by
  refine ⟨fun k hk => ?_, h.kept.trans (Kept.grownBy (R := fun k => row = some k) hg fun k e => e) fun k hk e => ?_⟩
  · rcases h.sub k hk with q | ⟨q1, q2⟩
    · exact .inl q
    · exact .inr ⟨q1, Nat.lt_of_lt_of_le q2 hg.size⟩
  · have := hlo k e
    omega
theorem WX.own {w : World} {p ap z g c : Nat} {A : Ar} {S : Sl} {now tn : Nat} {ta tw tt : Nat → Nat} {F : Nat → Prop} {w' : World} (h : WX w p ap z g c A S now tn ta tw tt F) {row : Option Nat} (hg : w.grownBy w' row) (hn : ∀ k, row = some k → ¬ F k) : WX w' p ap z g c A S now tn ta tw tt F :=
  h.keep (Kept.grownBy (R := fun k => row = some k) hg fun k e => e) fun k hF e => hn k e hF
set_option maxHeartbeats 1000000 in
theorem pwempty {w : World} {p ap z g c : Nat} {A : Ar} {S : Sl} {now tn : Nat} {ta tw tt : Nat → Nat} {F : Nat → Prop} (h : WX w p ap z g c A S now tn ta tw tt F) (hS : S.Fit) (hl : S.ls.length = 1024) (q : Nat) (hq : q < 1024) :
    Calls Try.prog 58 #[.pointer (some ⟨p, 0, none⟩), .int .i64 (q : Int)] w fun e w' => ∃ B d, e = .returned (.slice B (S.at_ q).length d) ∧ OwnC w' w.heap.size 3 1 B (S.at_ q).length d (fun k => .int .i64 ((S.at_ q).getD k 0 : Int)) ∧
      ∃ F', WX w' p ap z g c A (S.put q []) now tn ta tw tt F' ∧ Ext F F' w w' ∧ ∀ k, Value.ownBlock (.slice B (S.at_ q).length d) = some k → ¬ F' k := by
  obtain ⟨i0, hi0, hz0, hz1, hz2⟩ := info_parts Try.infoIN
  have HI0 := Lib.hid hi0
  have HZ0 := Lib.hid hz0
  have HZ1 := Lib.hid hz1
  have HZ2 := Lib.hid hz2
  clear hi0 hz0 hz1 hz2
  have hqs : q < S.ls.length := by omega
  have HFIT := Lib.hid fun j => Sl.fit_drop hS hqs j
  have HX := Lib.hid h
  have x1 : w.cell? ⟨p, 1, none⟩ = some (.pointer (some ⟨z, 0, none⟩)) := blk_cell h.blk 1
  have hlen : (S.at_ q).length ≤ 65536 := Nat.le_trans (Sl.at_length hS.ok q) hS.m
  have HLN := Lib.hid (h.slq fun Z Fz hZ => pa_len hS (q : Int) hZ)
  rw [Sl.of_in] at HLN
  have HS0 : Hid (S.put q ((S.at_ q).drop 0) = S) := Lib.hid (by rw [List.drop_zero]; exact Sl.put_at S hqs)
  have HSE : Hid (S.put q ((S.at_ q).drop (S.at_ q).length) = S.put q []) := Lib.hid (by rw [List.drop_length])
  have HPOP : Hid (∀ (j x : Nat), (S.at_ q)[j]? = some x → (S.put q ((S.at_ q).drop j)).popE (q : Int) = #[.int .i64 (x : Int), .bool true] ∧ (S.put q ((S.at_ q).drop j)).pop (q : Int) = S.put q ((S.at_ q).drop (j + 1))) := Lib.hid fun j x hx => by
    obtain ⟨hj, e⟩ := List.getElem?_eq_some_iff.1 hx
    have hd : (S.at_ q).drop j = x :: (S.at_ q).drop (j + 1) := by rw [List.drop_eq_getElem_cons hj, e]
    have ha : (S.put q ((S.at_ q).drop j)).at_ q = x :: (S.at_ q).drop (j + 1) := by rw [Sl.at_put hqs, if_pos rfl, hd]
    refine ⟨?_, by rw [Sl.pop_eq ha, Sl.put_put']⟩
    unfold Sl.popE
    rw [Sl.of_in, ha]
  clear h hS hl hqs
  obtain ⟨T, hT⟩ : ∃ T : Nat → Sl, ∀ j, T j = S.put q ((S.at_ q).drop j) := ⟨_, fun _ => rfl⟩
  have HTE : Hid (T (S.at_ q).length = S.put q []) := Lib.hid ((hT _).trans HSE.out)
  have HT0 : Hid (T 0 = S) := Lib.hid ((hT 0).trans HS0.out)
  simp only [← hT] at HFIT HPOP
  clear hT HSE HS0
  rw [← HTE.out]
  rw [← HT0.out] at HX
  clear HTE HT0
  generalize S.at_ q = L at *
  obtain ⟨n, hn⟩ : ∃ n, n = L.length := ⟨_, rfl⟩
  have HN := Lib.hid hn
  rw [← hn] at hlen HLN ⊢
  clear hn
  go_enter Try.func58, Try.ntmps58
  go_wp2_with (first
    | (go_at_call 73
       refine HLN.out.mono ?_
       rintro e u1 ⟨rfl, hb⟩
       have HX1 := Lib.hid (HX.out.step hb)
       have HE1 := Lib.hid ((Ext.refl F w).step hb)
       clear hb))
  clear x1
  go_loopw [5, 14] (fun o vi wr => ∃ (j : Nat) (B : Option Addr) (d : Nat) (F' : Nat → Prop), vi = .int .i64 (j : Int) ∧ o = .slice B j d ∧ j ≤ n ∧ OwnC wr w.heap.size 3 1 B j d (fun k => .int .i64 (L.getD k 0 : Int)) ∧ WX wr p ap z g c A (T j) now tn ta tw tt F' ∧ Ext F F' w wr ∧ ∀ k, Value.ownBlock (.slice B j d) = some k → ¬ F' k) (fun _ vi _ => n - (intOf vi).toNat)
  case atStart => exact ⟨0, none, 0, F, rfl, rfl, Nat.zero_le _, OwnC.nil_ _ _ _ _ _, HX1.out, HE1.out, fun k e => by cases e⟩
  case round =>
    obtain ⟨j, B, d, F1, rfl, rfl, hj, ho, hx, he, hnf⟩ := hrel
    have HO := Lib.hid ho
    have HXr := Lib.hid hx
    have HE := Lib.hid he
    have HNF := Lib.hid hnf
    clear ho hx he hnf HX1 HE1
    by_cases hjn : j < n
    · have hjn' : (j : Int) < (n : Int) := by omega
      have x1 : wr.cell? ⟨p, 1, none⟩ = some (.pointer (some ⟨z, 0, none⟩)) := blk_cell HXr.out.blk 1
      obtain ⟨x, hx⟩ : ∃ x, L[j]? = some x := ⟨_, List.getElem?_eq_getElem (by rw [← HN.out]; exact hjn)⟩
      have HGX : Hid (L.getD j 0 = x) := Lib.hid (by rw [List.getD_eq_getElem?_getD, hx]; rfl)
      have hp := HXr.out.slots fun Z => pa_pop (HFIT.out j) Z (q : Int)
      rw [(HPOP.out j x hx).1, (HPOP.out j x hx).2] at hp
      have HP := Lib.hid hp
      clear hp hx
      have zw : IntKind.i64.wrap ((j : Int) + 1) = (j : Int) + 1 := by rw [IntKind.wrap_i64]; omega
      go_upto_region 5 with (first
        | (go_at_call 74
           refine HP.out.mono ?_
           rintro e v ⟨rfl, F2, hx2, he2⟩))
      have HX2 := Lib.hid hx2
      have HE2 := Lib.hid (HE.out.trans he2)
      have HO2 : Hid (OwnC v w.heap.size 3 1 B j d (fun k => .int .i64 (L.getD k 0 : Int))) := Lib.hid (HO.out.keepAny fun g e => he2.kept.block g (by subst e; exact HO.out.ltA) (HNF.out g (by rw [e]; rfl)))
      have HNF2 : Hid (∀ k, Value.ownBlock (.slice B j d) = some k → ¬ F2 k) := Lib.hid fun k e hF => by
        rcases he2.sub k hF with q | ⟨q, _⟩
        · exact HNF.out k e q
        · obtain ⟨a, e1, e2⟩ := ownBlock_some e
          rcases HO.out.2 with ⟨hh, _⟩ | ⟨g', cap, cur, hv, _, hh, _⟩
          · rw [e1] at hh
            cases hh
          · injection hv with h1 _ _
            rw [e1] at h1
            injection h1 with h1
            have := lt_heap hh
            rw [h1] at e2
            have e2 : g' = k := e2
            omega
      clear hx2 he2 HP HXr HE HO HNF x1
      have hws := HE2.out.kept.size
      go_wp2_with (first
        | (at_builtin
           refine wpList_append_vals rfl (.tmp 25) (.tmp 27) 96 rfl w.heap.size 3 i0 (.int .i64 0) 1 Try.underlying96 HI0.out HZ0.out HZ1.out rfl (by decide) rfl (HO2.out.alloc (.cells #[.int .i64 (x : Int)] 3)) (m := 1) (A' := some ⟨v.heap.size, 0, none⟩) (B := (v.alloc (.cells #[.int .i64 (x : Int)] 3)).heap.size) (g := fun k => (#[.int .i64 (x : Int)] : Array Value)[k]?.getD undef) rfl (.inr ⟨v.heap.size, 0, rfl, by simp, fun k hk => ?_⟩) (fun k hk => ?_) (by unfold maxLen; omega) (by rw [HZ2.out]; omega) (Nat.le_trans hws (alloc_le v _)) ?_
           · rw [Nat.zero_add, blk_cell (heap_alloc_new v _) k]
             match k, hk with
             | 0, _ => rfl
           · match k, hk with
             | 0, _ => rfl
           intro B2 d2 u hown hg hbk
           have HO3 := Lib.hid hown
           have HX3 : Hid (WX u p ap z g c A (T (j + 1)) now tn ta tw tt F2) := Lib.hid ((HX2.out.step (below_alloc v (.cells #[.int .i64 (x : Int)] 3))).own hg HNF2.out)
           have HE3 : Hid (Ext F F2 w u) := Lib.hid ((HE2.out.step (below_alloc v (.cells #[.int .i64 (x : Int)] 3))).own hg HO2.out.at_)
           have HNF3 : Hid (∀ k, Value.ownBlock (.slice B2 (j + 1) d2) = some k → ¬ F2 k) := Lib.hid fun k e hF => by
             rcases hbk with e2 | e2
             · exact HNF2.out k (e2.symm.trans e) hF
             · rw [e] at e2
               injection e2 with e2
               have := HX2.out.old k hF
               have := alloc_le v (.cells #[.int .i64 (x : Int)] 3)
               omega
           clear hown hg hbk))
      go_roundw
      case rel =>
        refine ⟨j + 1, B2, d2, F2, by go_num, rfl, by omega, HO3.out.same fun k hk => ?_, HX3.out, HE3.out, HNF3.out⟩
        unfold catV
        by_cases e : k < j * 1
        · rw [if_pos e]
        · rw [if_neg e]
          have : k = j := by omega
          subst this
          rw [HGX.out]
          simp
      case measure => simp [intOf]; omega
    · obtain rfl : n = j := by omega
      go_wp2_with fail
      go_ret
      exact ⟨B, d, rfl, HO.out, F1, HXr.out, HE.out, HNF.out⟩
end Go.Proofs.Ytkmakdhlaenaoaa
/- Stage 11: the landed layAnew. -/
namespace Go.Proofs.Ytkmakdhlaenaoaa
set_option maxRecDepth 100000
open Go.RowKit Go.Shelf
/-- A row of one's own is not the wheel's, whatever call of it turns. -/
theorem own_beside {w v : World} {base size : Nat} {e : TypeId} {B : Option Addr} {n d : Nat} {f : Nat → Value} {F F' : Nat → Prop} (h : OwnC w base e size B n d f) (hn : ∀ k, Value.ownBlock (.slice B n d) = some k → ¬ F k) (he : Ext F F' w v) :
    OwnC v base e size B n d f ∧ ∀ k, Value.ownBlock (.slice B n d) = some k → ¬ F' k := by
  refine ⟨h.keepAny fun g e => he.kept.block g (by subst e; exact h.ltA) (hn g (by rw [e]; rfl)), fun k e hF => ?_⟩
  rcases he.sub k hF with q | ⟨q, _⟩
  · exact hn k e q
  · obtain ⟨a, e1, e2⟩ := ownBlock_some e
    rcases h.2 with ⟨hh, _⟩ | ⟨g', cap, cur, hv, _, hh, _⟩
    · rw [e1] at hh
      cases hh
    · injection hv with h1 _ _
      rw [e1] at h1
      injection h1 with h1
      have := lt_heap hh
      rw [h1] at e2
      have e2 : g' = k := e2
      omega
theorem Plc.fit {L : Nat → Nat → Prop} {S : Sl} {a : Ar} {ta : Nat → Nat} {X : Nat → Prop} (h : Plc L S a ta X) (hn : a.has.length ≤ 65536) : S.Fit := ⟨h.ok, by rw [h.cells]; exact hn, by rw [h.len]; omega⟩
/-- A slot that begins is emptied: what is left lies where it may. -/
theorem Plc.begun {S : Sl} {a : Ar} {ta : Nat → Nat} {l n : Nat} (hl : 0 < l) (hl3 : l ≤ 3) (h : Plc (Lse l n) S a ta (fun _ => False)) : Plc (Lse (l - 1) n) (S.put (slt l n) []) a ta (fun i => i ∈ (S.at_ (slt l n)).drop 0) := by
  have hq := slt_lt hl3 n
  refine ((h.emptied hq).imp (L' := Lse (l - 1) n) (ta' := ta) fun i q hi hx hm hL => lse_stays hl hL fun e => ?_).iff fun i => by simp
  subst e
  rw [Sl.at_put (by rw [h.len]; exact hq), if_pos rfl] at hm
  cases hm
theorem bytes_zero {n : Nat} : ∀ {l : Nat}, (∀ k, k < l → n / 256 ^ k % 256 = 0) → n % 256 ^ l = 0
  | 0, _ => by simp [Nat.mod_one]
  | l + 1, h => by
    have h1 := bytes_zero (n := n) (l := l) fun k hk => h k (by omega)
    have h2 := h l (by omega)
    have h3 := Nat.div_add_mod n (256 ^ l)
    rw [h1, Nat.add_zero] at h3
    obtain ⟨d, hd⟩ := Nat.dvd_of_mod_eq_zero h2
    rw [hd] at h3
    rw [← h3, Nat.pow_succ, ← Nat.mul_assoc]
    exact Nat.mul_mod_right ..
theorem byte_not {n l b : Nat} (hb : b < l) (h : n / 256 ^ b % 256 ≠ 0) : n % 256 ^ l ≠ 0 := fun e => by
  refine h ?_
  obtain ⟨d, hd⟩ := Nat.dvd_of_mod_eq_zero e
  obtain ⟨j, rfl⟩ : ∃ j, l = b + (j + 1) := ⟨l - b - 1, by omega⟩
  rw [hd, Nat.pow_add, Nat.mul_assoc, Nat.mul_div_cancel_left _ (Nat.pow_pos (by omega)), Nat.pow_succ, Nat.mul_assoc, Nat.mul_left_comm]
  exact Nat.mul_mod_right ..
theorem Plc.skip {S : Sl} {a : Ar} {ta : Nat → Nat} {l n : Nat} (hl : 0 < l) (hm : n % 256 ^ l ≠ 0) {X : Nat → Prop} (h : Plc (Lse l n) S a ta X) : Plc (Lse (l - 1) n) S a ta X := h.imp fun _ _ _ _ _ hL => lse_skip hl hm hL
theorem Plc.skips {S : Sl} {a : Ar} {ta : Nat → Nat} {l n : Nat} (hm : n % 256 ≠ 0) {X : Nat → Prop} (h : Plc (Lse l n) S a ta X) : Plc (Lse 0 n) S a ta X := h.imp fun _ _ _ _ _ hL => lse_skips hm hL
/-- One of the slot is laid anew. -/
theorem Plc.relaid {S : Sl} {a : Ar} {ta : Nat → Nat} {M n : Nat} {L : List Nat} {j x : Nat} (hn0 : 0 < n) (hn : n < 18446744073709551616) (hL : L.Nodup) (hx : L[j]? = some x) (hle : n ≤ ta x) (hlt : ta x < 18446744073709551616) (h : Plc (Lse M n) S a ta (fun i => i ∈ L.drop j)) :
    Plc (Lse M n) (S.push (plc n (ta x) : Int) (x : Int)) a ta (fun i => i ∈ L.drop (j + 1)) := by
  obtain ⟨hj, e⟩ := List.getElem?_eq_some_iff.1 hx
  have hd : L.drop j = x :: L.drop (j + 1) := by rw [List.drop_eq_getElem_cons hj, e]
  have hnd : (x :: L.drop (j + 1)).Nodup := by rw [← hd]; exact hL.sublist (List.drop_sublist ..)
  refine (h.push (i := x) (by rw [hd]; exact List.mem_cons_self ..) (slt_lt (lev_le ..) _) (lse_lay hn0 (by omega) (by omega) hle)).iff fun i => ?_
  rw [hd]
  constructor
  · rintro ⟨h1, h2⟩
    exact (List.mem_cons.1 h1).resolve_left h2
  · intro h1
    exact ⟨List.mem_cons_of_mem _ h1, fun e => (List.nodup_cons.1 hnd).1 (by rw [← e]; exact h1)⟩
set_option maxHeartbeats 600000 in
theorem pwlayAnew {w : World} {p ap z g c : Nat} {A : Ar} {S : Sl} {now tn : Nat} {ta tw tt : Nat → Nat} {F : Nat → Prop} (h : WX w p ap z g c A S now tn ta tw tt F) (hnow : now < 18446744073709551616) (hn0 : 0 < now) (hta : ∀ i, A.at_ i ≠ 0 → ta i < 18446744073709551616) (hp : Plc (Lse 3 now) S A ta (fun _ => False)) :
    Calls Try.prog 36 #[.pointer (some ⟨p, 0, none⟩)] w fun e w' => e = .returned (.tuple #[]) ∧ ∃ S' F', WX w' p ap z g c A S' now tn ta tw tt F' ∧ Ext F F' w w' ∧ Plc (Lse 0 now) S' A ta (fun _ => False) := by
  have HX0 := Lib.hid h
  have HP0 := Lib.hid hp
  have HTA := Lib.hid hta
  have HAN := Lib.hid h.n
  have HBY := Lib.hid fun (l : Nat) (hl : l ≤ 3) W => pbyte W l hl now hnow
  have HSL := Lib.hid fun (l : Nat) (hl : l ≤ 3) W => pslot W l hl now hnow
  clear h hp hta
  go_enter Try.func36, Try.ntmps36
  go_wp2_with fail
  go_step3
  go_wp2_with fail
  go_step3
  go_wp2_with fail
  go_loopw [2] (fun v2 wr => ∃ (l : Nat) (S1 : Sl) (F1 : Nat → Prop), v2 = .int .i64 (l : Int) ∧ l ≤ 3 ∧ WX wr p ap z g c A S1 now tn ta tw tt F1 ∧ Ext F F1 w wr ∧ Plc (Lse l now) S1 A ta (fun _ => False)) (fun v2 _ => (intOf v2).toNat)
  case atStart => exact ⟨3, S, F, rfl, Nat.le_refl _, HX0.out, Ext.refl F w, HP0.out⟩
  case round =>
    obtain ⟨l, S1, F1, rfl, hl, hx, he, hp⟩ := hrel
    have HX1 := Lib.hid hx
    have HE1 := Lib.hid he
    have HP1 := Lib.hid hp
    clear hx he hp HX0 HP0
    by_cases l0 : l = 0
    · subst l0
      go_wp2_with fail
      rw [Exit.noGoto_normal]
      go_end0
      exact ⟨rfl, S1, F1, HX1.out, HE1.out, HP1.out⟩
    · have l1 : (0 : Int) < (l : Int) := by omega
      have zl : IntKind.i64.wrap ((l : Int) - 1) = ((l - 1 : Nat) : Int) := by rw [IntKind.wrap_i64]; omega
      have HL0 : Hid (0 < l) := Lib.hid (by omega)
      go_wp2_with fail
      rw [show (decide (0 < l)) = true from decide_eq_true HL0.out]
      go_loopw [11] (fun vb wr2 => ∃ (b : Nat), vb = .int .i64 (b : Int) ∧ b ≤ l ∧ (∀ k, k < b → now / 256 ^ k % 256 = 0) ∧ WX wr2 p ap z g c A S1 now tn ta tw tt F1 ∧ Ext F F1 w wr2) (fun vb _ => l - (intOf vb).toNat)
      case atStart => exact ⟨0, rfl, Nat.zero_le _, fun k hk => absurd hk (Nat.not_lt_zero _), HX1.out, HE1.out⟩
      case round =>
        obtain ⟨b, rfl, hb, hz, hx, he⟩ := hrel
        have HX2 := Lib.hid hx
        have HE2 := Lib.hid he
        have HZ := Lib.hid hz
        clear hx he hz HX1 HE1
        have x3 : wr.cell? ⟨p, 3, none⟩ = some (.int .u64 (now : Int)) := blk_cell HX2.out.blk 3
        by_cases hbl : b < l
        · have b1 : (b : Int) < (l : Int) := by omega
          have HBB := Lib.hid (HBY.out b (by omega))
          have zb : IntKind.i64.wrap ((b : Int) + 1) = (b : Int) + 1 := by rw [IntKind.wrap_i64]; omega
          by_cases hy : now / 256 ^ b % 256 = 0
          · rw [hy] at HBB
            go_wp2_with (first
              | (go_at_call 57
                 refine (HBB.out _).mono ?_
                 rintro e v ⟨rfl, hbb⟩
                 have HX3 := Lib.hid (HX2.out.step hbb)
                 have HE3 := Lib.hid (HE2.out.step hbb)
                 clear hbb))
            go_roundw
            case rel =>
              refine ⟨b + 1, by go_num, by omega, fun k hk => ?_, HX3.out, HE3.out⟩
              by_cases e : k = b
              · rw [e]
                exact hy
              · exact HZ.out k (by omega)
            case measure => simp [intOf]; omega
          · obtain ⟨y, hyy⟩ : ∃ y, y = now / 256 ^ b % 256 := ⟨_, rfl⟩
            have HMD := Lib.hid (byte_not hbl hy)
            have HM0 : Hid (∀ b', b' = b → b' = 0 → now % 256 ≠ 0) := Lib.hid fun b' e1 e h0 => hy (by rw [← e1, e]; simpa using h0)
            rw [← hyy] at HBB hy
            have y0 : ((y : Int) == 0) = false := by simp; omega
            clear hyy hy
            by_cases b0 : b = 0
            · subst b0
              go_wp2_with (first
                | (go_at_call 57
                   refine (HBB.out _).mono ?_
                   rintro e v ⟨rfl, hbb⟩
                   have HX3 := Lib.hid (HX2.out.step hbb)
                   have HE3 := Lib.hid (HE2.out.step hbb)
                   clear hbb))
              (try simp only [Exit.inBlock, Exit.then, Exit.noGoto_normal])
              go_end0
              exact ⟨rfl, S1, F1, HX3.out, HE3.out, HP1.out.skips (HM0.out _ rfl rfl)⟩
            · have b3 : ((b : Int) == 0) = false := by simp; omega
              go_wp2_with (first
                | (go_at_call 57
                   refine (HBB.out _).mono ?_
                   rintro e v ⟨rfl, hbb⟩
                   have HX3 := Lib.hid (HX2.out.step hbb)
                   have HE3 := Lib.hid (HE2.out.step hbb)
                   clear hbb))
              go_roundw
              case rel => exact ⟨l - 1, S1, F1, by go_num, by omega, HX3.out, HE3.out, HP1.out.skip HL0.out HMD.out⟩
              case measure => simp [intOf]; omega
        · obtain rfl : l = b := by omega
          have HLL : Hid (∀ x, x ∈ S1.at_ (slt l now) → A.at_ x ≠ 0 ∧ now ≤ ta x) := Lib.hid fun x hx => by
            obtain ⟨m1, _⟩ := HP1.out.mem _ _ hx
            obtain ⟨q, hq, hL⟩ := HP1.out.pl x m1 id
            exact ⟨m1, lse_le hL hn0⟩
          have HEM := Lib.hid fun (W : World) (Fw : Nat → Prop) (hx : WX W p ap z g c A S1 now tn ta tw tt Fw) => pwempty hx (HP1.out.fit HAN.out) HP1.out.len (slt l now) (slt_lt hl now)
          have HP4 := Lib.hid (Plc.begun HL0.out hl HP1.out)
          have HND := Lib.hid (HP1.out.ok.nodup (slt l now))
          have HLE := Lib.hid (Sl.at_length HP1.out.ok (slt l now))
          rw [HP1.out.cells] at HLE
          have hL9 : (S1.at_ (slt l now)).length ≤ 65536 := Nat.le_trans HLE.out HAN.out
          have HBS := Lib.hid (HSL.out l hl)
          generalize S1.put (slt l now) [] = S4 at *
          generalize S1.at_ (slt l now) = L at *
          generalize slt l now = sq at *
          obtain ⟨n, hn⟩ : ∃ n, n = L.length := ⟨_, rfl⟩
          have HN := Lib.hid hn
          rw [← hn] at HEM hL9
          clear hn HP1 HLE HBY HSL HZ
          go_wp2_with (first
            | (go_at_call 59
               refine (HBS.out _).mono ?_
               rintro e v ⟨rfl, hbb⟩
               have HX3 := Lib.hid (HX2.out.step hbb)
               have HE3 := Lib.hid (HE2.out.step hbb)
               clear hbb)
            | (go_at_call 58
               refine (HEM.out _ _ HX3.out).mono ?_
               rintro e v4 ⟨B, d, rfl, ho, F4, hx4, he4, hnf4⟩
               have HO4 := Lib.hid (ho.le (Nat.zero_le _))
               have HX4 := Lib.hid hx4
               have HE4 := Lib.hid (HE3.out.trans he4)
               have HN4 := Lib.hid hnf4
               clear ho hx4 he4 hnf4))
          go_loopw [33] (fun vj wr2 => ∃ (j : Nat) (S5 : Sl) (F5 : Nat → Prop), vj = .int .i64 (j : Int) ∧ j ≤ n ∧ WX wr2 p ap z g c A S5 now tn ta tw tt F5 ∧ Ext F F5 w wr2 ∧ OwnC wr2 0 3 1 B n d (fun k => .int .i64 (L.getD k 0 : Int)) ∧ (∀ k, Value.ownBlock (.slice B n d) = some k → ¬ F5 k) ∧ Plc (Lse (l - 1) now) S5 A ta (fun i => i ∈ L.drop j)) (fun vj _ => n - (intOf vj).toNat)
          case atStart => exact ⟨0, S4, F4, rfl, Nat.zero_le _, HX4.out, HE4.out, HO4.out, HN4.out, HP4.out⟩
          case round =>
            obtain ⟨j, S5, F5, rfl, hj, hx, he, ho, hnf, hp⟩ := hrel
            have HX5 := Lib.hid hx
            have HE5 := Lib.hid he
            have HO5 := Lib.hid ho
            have HN5 := Lib.hid hnf
            have HP5 := Lib.hid hp
            clear hx he ho hnf hp HX4 HE4 HO4 HN4 HP4 HX2 HE2
            by_cases hjn : j < n
            · have j1 : (j : Int) < (n : Int) := by omega
              have j0 : (0 : Int) ≤ (j : Int) := by omega
              have j2 : ((j : Int)).toNat = j := by omega
              have zj : IntKind.i64.wrap ((j : Int) + 1) = (j : Int) + 1 := by rw [IntKind.wrap_i64]; omega
              obtain ⟨x, hx⟩ : ∃ x, L[j]? = some x := ⟨_, List.getElem?_eq_getElem (by rw [← HN.out]; exact hjn)⟩
              have hgx : L.getD j 0 = x := by rw [List.getD_eq_getElem?_getD, hx]; rfl
              obtain ⟨hlv, hle⟩ := HLL.out x (List.mem_of_getElem? hx)
              have hlt := HTA.out x hlv
              have HLY := Lib.hid (pwlay HX5.out (HP5.out.fit HAN.out) x (by rw [← HP5.out.cells]; exact HP5.out.lt hlv) hlt hnow)
              have HP6 := Lib.hid (HP5.out.relaid hn0 hnow HND.out hx hle hlt)
              have cap := HO5.out.cap
              have cap9 := HO5.out.cap_le
              unfold maxLen at cap9
              obtain ⟨gb, hgb, _, hgl, hc, _⟩ := HO5.out.lies (by omega)
              have xj : wr.cell? ⟨gb, j, none⟩ = some (.int .i64 (x : Int)) := by rw [← hgx]; exact hc j (by omega)
              subst hgb
              clear hc hx hgx hlv hle hlt HP5 HX5
              go_wp2_with (first
                | (go_at_call 56
                   refine HLY.out.mono ?_
                   rintro e v6 ⟨rfl, F6, hx6, he6⟩
                   have HX6 := Lib.hid hx6
                   have HE6 := Lib.hid (HE5.out.trans he6)
                   have HO6 := Lib.hid (own_beside HO5.out HN5.out he6)
                   clear hx6 he6))
              go_roundw
              case rel => exact ⟨j + 1, _, F6, by go_num, by omega, HX6.out, HE6.out, HO6.out.1, HO6.out.2, HP6.out⟩
              case measure => simp [intOf]; omega
            · obtain rfl : n = j := by omega
              have HP7 : Hid (Plc (Lse (l - 1) now) S5 A ta (fun _ => False)) := Lib.hid (HP5.out.iff fun i => by rw [HN.out, List.drop_length]; simp)
              clear HP5
              go_wp2_with fail
              go_roundw
              case rel => exact ⟨l - 1, S5, F5, by go_num, by omega, HX5.out, HE5.out, HP7.out⟩
              case measure => simp [intOf]; omega
end Go.Proofs.Ytkmakdhlaenaoaa
