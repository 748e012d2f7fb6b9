import Derived.Test.YtimcdnbfdkpffaaGreatGm15
import Derived.Shelf.SlSortCmp.Whole1
import Derived.Ground.SlsfProg
import Derived.Shelf.Lay
/- Stage 11: the landed layAnew. -/
namespace Go.Proofs.YtimcdnbfdkpffaaGreat
set_option maxRecDepth 100000
open Go.RowKit Go.Shelf
/-- A row of one's own is not the wheel's, whatever call of it turns. -/
theorem own_beside {w v : World} {base size : Nat} {e : TypeId} {B : Option Addr} {n d : Nat} {f : Nat → Value} {F F' : Nat → Prop} (h : OwnC w base e size B n d f) (hn : ∀ k, Value.ownBlock (.slice B n d) = some k → ¬ F k) (he : Ext F F' w v) :
    OwnC v base e size B n d f ∧ ∀ k, Value.ownBlock (.slice B n d) = some k → ¬ F' k := by
  refine ⟨h.keepAny fun g e => he.kept.block g (by subst e; exact h.ltA) (hn g (by rw [e]; rfl)), fun k e hF => ?_⟩
  rcases he.sub k hF with q | ⟨q, _⟩
  · exact hn k e q
  · obtain ⟨a, e1, e2⟩ := ownBlock_some e
    rcases h.2 with ⟨hh, _⟩ | ⟨g', cap, cur, hv, _, hh, _⟩
    · rw [e1] at hh
      cases hh
    · injection hv with h1 _ _
      rw [e1] at h1
      injection h1 with h1
      have := lt_heap hh
      rw [h1] at e2
      have e2 : g' = k := e2
      omega
theorem Plc.fit {L : Nat → Nat → Prop} {S : Sl} {a : Ar} {ta : Nat → Nat} {X : Nat → Prop} (h : Plc L S a ta X) (hn : a.has.length ≤ 65536) : S.Fit := ⟨h.ok, by rw [h.cells]; exact hn, by rw [h.len]; omega⟩
/-- A slot that begins is emptied: what is left lies where it may. -/
theorem Plc.begun {S : Sl} {a : Ar} {ta : Nat → Nat} {l n : Nat} (hl : 0 < l) (hl3 : l ≤ 3) (h : Plc (Lse l n) S a ta (fun _ => False)) : Plc (Lse (l - 1) n) (S.put (slt l n) []) a ta (fun i => i ∈ (S.at_ (slt l n)).drop 0) := by
  have hq := slt_lt hl3 n
  refine ((h.emptied hq).imp (L' := Lse (l - 1) n) (ta' := ta) fun i q hi hx hm hL => lse_stays hl hL fun e => ?_).iff fun i => by simp
  subst e
  rw [Sl.at_put (by rw [h.len]; exact hq), if_pos rfl] at hm
  cases hm
theorem byte_not {n l b : Nat} (hb : b < l) (h : n / 256 ^ b % 256 ≠ 0) : n % 256 ^ l ≠ 0 := fun e => by
  refine h ?_
  obtain ⟨d, hd⟩ := Nat.dvd_of_mod_eq_zero e
  obtain ⟨j, rfl⟩ : ∃ j, l = b + (j + 1) := ⟨l - b - 1, by omega⟩
  rw [hd, Nat.pow_add, Nat.mul_assoc, Nat.mul_div_cancel_left _ (Nat.pow_pos (by omega)), Nat.pow_succ, Nat.mul_assoc, Nat.mul_left_comm]
  exact Nat.mul_mod_right ..
theorem Plc.skip {S : Sl} {a : Ar} {ta : Nat → Nat} {l n : Nat} (hl : 0 < l) (hm : n % 256 ^ l ≠ 0) {X : Nat → Prop} (h : Plc (Lse l n) S a ta X) : Plc (Lse (l - 1) n) S a ta X := h.imp fun _ _ _ _ _ hL => lse_skip hl hm hL
theorem Plc.skips {S : Sl} {a : Ar} {ta : Nat → Nat} {l n : Nat} (hm : n % 256 ≠ 0) {X : Nat → Prop} (h : Plc (Lse l n) S a ta X) : Plc (Lse 0 n) S a ta X := h.imp fun _ _ _ _ _ hL => lse_skips hm hL
/-- One of the slot is laid anew. -/
theorem Plc.relaid {S : Sl} {a : Ar} {ta : Nat → Nat} {M n : Nat} {L : List Nat} {j x : Nat} (hn0 : 0 < n) (hn : n < 18446744073709551616) (hL : L.Nodup) (hx : L[j]? = some x) (hle : n ≤ ta x) (hlt : ta x < 18446744073709551616) (h : Plc (Lse M n) S a ta (fun i => i ∈ L.drop j)) :
    Plc (Lse M n) (S.push (plc n (ta x) : Int) (x : Int)) a ta (fun i => i ∈ L.drop (j + 1)) := by
  obtain ⟨hj, e⟩ := List.getElem?_eq_some_iff.1 hx
  have hd : L.drop j = x :: L.drop (j + 1) := by rw [List.drop_eq_getElem_cons hj, e]
  have hnd : (x :: L.drop (j + 1)).Nodup := by rw [← hd]; exact hL.sublist (List.drop_sublist ..)
  refine (h.push (i := x) (by rw [hd]; exact List.mem_cons_self ..) (slt_lt (lev_le ..) _) (lse_lay hn0 (by omega) (by omega) hle)).iff fun i => ?_
  rw [hd]
  constructor
  · rintro ⟨h1, h2⟩
    exact (List.mem_cons.1 h1).resolve_left h2
  · intro h1
    exact ⟨List.mem_cons_of_mem _ h1, fun e => (List.nodup_cons.1 hnd).1 (by rw [← e]; exact h1)⟩
set_option maxHeartbeats 600000 in
theorem pwlayAnew {w : World} {p ap z g c : Nat} {A : Ar} {S : Sl} {now tn : Nat} {ta tw tt : Nat → Nat} {F : Nat → Prop} (h : WX w p ap z g c A S now tn ta tw tt F) (hnow : now < 18446744073709551616) (hn0 : 0 < now) (hta : ∀ i, A.at_ i ≠ 0 → ta i < 18446744073709551616) (hp : Plc (Lse 3 now) S A ta (fun _ => False)) :
    Calls Tryz.prog 93 #[.pointer (some ⟨p, 0, none⟩)] w fun e w' => e = .returned (.tuple #[]) ∧ ∃ S' F', WX w' p ap z g c A S' now tn ta tw tt F' ∧ Ext F F' w w' ∧ Plc (Lse 0 now) S' A ta (fun _ => False) := by
  have HX0 := Lib.hid h
  have HP0 := Lib.hid hp
  have HTA := Lib.hid hta
  have HAN := Lib.hid h.n
  have HBY := Lib.hid fun (l : Nat) (hl : l ≤ 3) W => pbyte W l hl now hnow
  have HSL := Lib.hid fun (l : Nat) (hl : l ≤ 3) W => pslot W l hl now hnow
  clear h hp hta
  go_enter Tryz.func93, Tryz.ntmps93
  go_wp2_with fail
  go_step3
  go_wp2_with fail
  go_step3
  go_wp2_with fail
  go_loopw [2] (fun v2 wr => ∃ (l : Nat) (S1 : Sl) (F1 : Nat → Prop), v2 = .int .i64 (l : Int) ∧ l ≤ 3 ∧ WX wr p ap z g c A S1 now tn ta tw tt F1 ∧ Ext F F1 w wr ∧ Plc (Lse l now) S1 A ta (fun _ => False)) (fun v2 _ => (intOf v2).toNat)
  case atStart => exact ⟨3, S, F, rfl, Nat.le_refl _, HX0.out, Ext.refl F w, HP0.out⟩
  case round =>
    obtain ⟨l, S1, F1, rfl, hl, hx, he, hp⟩ := hrel
    have HX1 := Lib.hid hx
    have HE1 := Lib.hid he
    have HP1 := Lib.hid hp
    clear hx he hp HX0 HP0
    by_cases l0 : l = 0
    · subst l0
      go_wp2_with fail
      rw [Exit.noGoto_normal]
      go_end0
      exact ⟨rfl, S1, F1, HX1.out, HE1.out, HP1.out⟩
    · have l1 : (0 : Int) < (l : Int) := by omega
      have zl : IntKind.i64.wrap ((l : Int) - 1) = ((l - 1 : Nat) : Int) := by rw [IntKind.wrap_i64]; omega
      have HL0 : Hid (0 < l) := Lib.hid (by omega)
      go_wp2_with fail
      rw [show (decide (0 < l)) = true from decide_eq_true HL0.out]
      go_loopw [11] (fun vb wr2 => ∃ (b : Nat), vb = .int .i64 (b : Int) ∧ b ≤ l ∧ (∀ k, k < b → now / 256 ^ k % 256 = 0) ∧ WX wr2 p ap z g c A S1 now tn ta tw tt F1 ∧ Ext F F1 w wr2) (fun vb _ => l - (intOf vb).toNat)
      case atStart => exact ⟨0, rfl, Nat.zero_le _, fun k hk => absurd hk (Nat.not_lt_zero _), HX1.out, HE1.out⟩
      case round =>
        obtain ⟨b, rfl, hb, hz, hx, he⟩ := hrel
        have HX2 := Lib.hid hx
        have HE2 := Lib.hid he
        have HZ := Lib.hid hz
        clear hx he hz HX1 HE1
        have x3 : wr.cell? ⟨p, 3, none⟩ = some (.int .u64 (now : Int)) := blk_cell HX2.out.blk 3
        by_cases hbl : b < l
        · have b1 : (b : Int) < (l : Int) := by omega
          have HBB := Lib.hid (HBY.out b (by omega))
          have zb : IntKind.i64.wrap ((b : Int) + 1) = (b : Int) + 1 := by rw [IntKind.wrap_i64]; omega
          by_cases hy : now / 256 ^ b % 256 = 0
          · rw [hy] at HBB
            go_wp2_with (first
              | (go_at_call 141
                 refine (HBB.out _).mono ?_
                 rintro e v ⟨rfl, hbb⟩
                 have HX3 := Lib.hid (HX2.out.step hbb)
                 have HE3 := Lib.hid (HE2.out.step hbb)
                 clear hbb))
            go_roundw
            case rel =>
              refine ⟨b + 1, by go_num, by omega, fun k hk => ?_, HX3.out, HE3.out⟩
              by_cases e : k = b
              · rw [e]
                exact hy
              · exact HZ.out k (by omega)
            case measure => simp [intOf]; omega
          · obtain ⟨y, hyy⟩ : ∃ y, y = now / 256 ^ b % 256 := ⟨_, rfl⟩
            have HMD := Lib.hid (byte_not hbl hy)
            have HM0 : Hid (∀ b', b' = b → b' = 0 → now % 256 ≠ 0) := Lib.hid fun b' e1 e h0 => hy (by rw [← e1, e]; simpa using h0)
            rw [← hyy] at HBB hy
            have y0 : ((y : Int) == 0) = false := by simp; omega
            clear hyy hy
            by_cases b0 : b = 0
            · subst b0
              go_wp2_with (first
                | (go_at_call 141
                   refine (HBB.out _).mono ?_
                   rintro e v ⟨rfl, hbb⟩
                   have HX3 := Lib.hid (HX2.out.step hbb)
                   have HE3 := Lib.hid (HE2.out.step hbb)
                   clear hbb))
              (try simp only [Exit.inBlock, Exit.then, Exit.noGoto_normal])
              go_end0
              exact ⟨rfl, S1, F1, HX3.out, HE3.out, HP1.out.skips (HM0.out _ rfl rfl)⟩
            · have b3 : ((b : Int) == 0) = false := by simp; omega
              go_wp2_with (first
                | (go_at_call 141
                   refine (HBB.out _).mono ?_
                   rintro e v ⟨rfl, hbb⟩
                   have HX3 := Lib.hid (HX2.out.step hbb)
                   have HE3 := Lib.hid (HE2.out.step hbb)
                   clear hbb))
              go_roundw
              case rel => exact ⟨l - 1, S1, F1, by go_num, by omega, HX3.out, HE3.out, HP1.out.skip HL0.out HMD.out⟩
              case measure => simp [intOf]; omega
        · obtain rfl : l = b := by omega
          have HLL : Hid (∀ x, x ∈ S1.at_ (slt l now) → A.at_ x ≠ 0 ∧ now ≤ ta x) := Lib.hid fun x hx => by
            obtain ⟨m1, _⟩ := HP1.out.mem _ _ hx
            obtain ⟨q, hq, hL⟩ := HP1.out.pl x m1 id
            exact ⟨m1, lse_le hL hn0⟩
          have HEM := Lib.hid fun (W : World) (Fw : Nat → Prop) (hx : WX W p ap z g c A S1 now tn ta tw tt Fw) => pwempty hx (HP1.out.fit HAN.out) HP1.out.len (slt l now) (slt_lt hl now)
          have HP4 := Lib.hid (Plc.begun HL0.out hl HP1.out)
          have HND := Lib.hid (HP1.out.ok.nodup (slt l now))
          have HLE := Lib.hid (Sl.at_length HP1.out.ok (slt l now))
          rw [HP1.out.cells] at HLE
          have hL9 : (S1.at_ (slt l now)).length ≤ 65536 := Nat.le_trans HLE.out HAN.out
          have HBS := Lib.hid (HSL.out l hl)
          generalize S1.put (slt l now) [] = S4 at *
          generalize S1.at_ (slt l now) = L at *
          generalize slt l now = sq at *
          obtain ⟨n, hn⟩ : ∃ n, n = L.length := ⟨_, rfl⟩
          have HN := Lib.hid hn
          rw [← hn] at HEM hL9
          clear hn HP1 HLE HBY HSL HZ
          go_wp2_with (first
            | (go_at_call 143
               refine (HBS.out _).mono ?_
               rintro e v ⟨rfl, hbb⟩
               have HX3 := Lib.hid (HX2.out.step hbb)
               have HE3 := Lib.hid (HE2.out.step hbb)
               clear hbb)
            | (go_at_call 142
               refine (HEM.out _ _ HX3.out).mono ?_
               rintro e v4 ⟨B, d, rfl, ho, F4, hx4, he4, hnf4⟩
               have HO4 := Lib.hid (ho.le (Nat.zero_le _))
               have HX4 := Lib.hid hx4
               have HE4 := Lib.hid (HE3.out.trans he4)
               have HN4 := Lib.hid hnf4
               clear ho hx4 he4 hnf4))
          go_loopw [33] (fun vj wr2 => ∃ (j : Nat) (S5 : Sl) (F5 : Nat → Prop), vj = .int .i64 (j : Int) ∧ j ≤ n ∧ WX wr2 p ap z g c A S5 now tn ta tw tt F5 ∧ Ext F F5 w wr2 ∧ OwnC wr2 0 3 1 B n d (fun k => .int .i64 (L.getD k 0 : Int)) ∧ (∀ k, Value.ownBlock (.slice B n d) = some k → ¬ F5 k) ∧ Plc (Lse (l - 1) now) S5 A ta (fun i => i ∈ L.drop j)) (fun vj _ => n - (intOf vj).toNat)
          case atStart => exact ⟨0, S4, F4, rfl, Nat.zero_le _, HX4.out, HE4.out, HO4.out, HN4.out, HP4.out⟩
          case round =>
            obtain ⟨j, S5, F5, rfl, hj, hx, he, ho, hnf, hp⟩ := hrel
            have HX5 := Lib.hid hx
            have HE5 := Lib.hid he
            have HO5 := Lib.hid ho
            have HN5 := Lib.hid hnf
            have HP5 := Lib.hid hp
            clear hx he ho hnf hp HX4 HE4 HO4 HN4 HP4 HX2 HE2
            by_cases hjn : j < n
            · have j1 : (j : Int) < (n : Int) := by omega
              have j0 : (0 : Int) ≤ (j : Int) := by omega
              have j2 : ((j : Int)).toNat = j := by omega
              have zj : IntKind.i64.wrap ((j : Int) + 1) = (j : Int) + 1 := by rw [IntKind.wrap_i64]; omega
              obtain ⟨x, hx⟩ : ∃ x, L[j]? = some x := ⟨_, List.getElem?_eq_getElem (by rw [← HN.out]; exact hjn)⟩
              have hgx : L.getD j 0 = x := by rw [List.getD_eq_getElem?_getD, hx]; rfl
              obtain ⟨hlv, hle⟩ := HLL.out x (List.mem_of_getElem? hx)
              have hlt := HTA.out x hlv
              have HLY := Lib.hid (pwlay HX5.out (HP5.out.fit HAN.out) x (by rw [← HP5.out.cells]; exact HP5.out.lt hlv) hlt hnow)
              have HP6 := Lib.hid (HP5.out.relaid hn0 hnow HND.out hx hle hlt)
              have cap := HO5.out.cap
              have cap9 := HO5.out.cap_le
              unfold maxLen at cap9
              obtain ⟨gb, hgb, _, hgl, hc, _⟩ := HO5.out.lies (by omega)
              have xj : wr.cell? ⟨gb, j, none⟩ = some (.int .i64 (x : Int)) := by rw [← hgx]; exact hc j (by omega)
              subst hgb
              clear hc hx hgx hlv hle hlt HP5 HX5
              go_wp2_with (first
                | (go_at_call 144
                   refine HLY.out.mono ?_
                   rintro e v6 ⟨rfl, F6, hx6, he6⟩
                   have HX6 := Lib.hid hx6
                   have HE6 := Lib.hid (HE5.out.trans he6)
                   have HO6 := Lib.hid (own_beside HO5.out HN5.out he6)
                   clear hx6 he6))
              go_roundw
              case rel => exact ⟨j + 1, _, F6, by go_num, by omega, HX6.out, HE6.out, HO6.out.1, HO6.out.2, HP6.out⟩
              case measure => simp [intOf]; omega
            · obtain rfl : n = j := by omega
              have HP7 : Hid (Plc (Lse (l - 1) now) S5 A ta (fun _ => False)) := Lib.hid (HP5.out.iff fun i => by rw [HN.out, List.drop_length]; simp)
              clear HP5
              go_wp2_with fail
              go_roundw
              case rel => exact ⟨l - 1, S5, F5, by go_num, by omega, HX5.out, HE5.out, HP7.out⟩
              case measure => simp [intOf]; omega
end Go.Proofs.YtimcdnbfdkpffaaGreat
/- Stage 11: what is due is sorted by the turns. -/
namespace Go.Proofs.YtimcdnbfdkpffaaGreat
set_option maxRecDepth 100000
open Go.RowKit Go.Shelf
shelf_lay_g SlLaysF.n6 Slsf 6 at Tryz 145 as Tryz.sortInts
def cmpN (x y : Nat) : Int := if x < y then -1 else if y < x then 1 else 0
theorem pisnan (w : World) (x : Nat) : Calls Tryz.prog 173 #[.int .u64 (x : Int)] w fun e w' => e = .returned (.bool false) ∧ w' = w := by
  go_enter Tryz.func173, Tryz.ntmps173
  go_wp2_with fail
  go_ret
  exact ⟨by simp, rfl⟩
theorem pcompare (w : World) (x y : Nat) : Calls Tryz.prog 147 #[.int .u64 (x : Int), .int .u64 (y : Int)] w fun e w' => e = .returned (.int .i64 (cmpN x y)) ∧ w' = w := by
  have HX := Lib.hid (pisnan w x)
  have HY := Lib.hid (pisnan w y)
  rcases Nat.lt_trichotomy x y with h | h | h
  · have b1 : (x : Int) < (y : Int) := by omega
    have e : cmpN x y = -1 := if_pos h
    rw [e]
    clear h e
    go_enter Tryz.func147, Tryz.ntmps147
    go_wp2_with fail
    go_at_call 173
    refine HX.out.mono ?_
    rintro e w' ⟨rfl, rfl⟩
    go_wp2_with fail
    go_at_call 173
    refine HY.out.mono ?_
    rintro e w' ⟨rfl, rfl⟩
    go_wp2_with fail
    go_ret
    exact ⟨rfl, rfl⟩
  · subst h
    have b1 : ¬ (x : Int) < (x : Int) := by omega
    have e : cmpN x x = 0 := by unfold cmpN; simp
    rw [e]
    clear e
    go_enter Tryz.func147, Tryz.ntmps147
    go_wp2_with fail
    go_at_call 173
    refine HX.out.mono ?_
    rintro e w' ⟨rfl, rfl⟩
    go_wp2_with fail
    go_at_call 173
    refine HY.out.mono ?_
    rintro e w' ⟨rfl, rfl⟩
    go_wp2_with fail
    go_ret
    exact ⟨rfl, rfl⟩
  · have b1 : ¬ (x : Int) < (y : Int) := by omega
    have b2 : (y : Int) < (x : Int) := by omega
    have e : cmpN x y = 1 := by unfold cmpN; rw [if_neg (by omega), if_pos h]
    rw [e]
    clear h e
    go_enter Tryz.func147, Tryz.ntmps147
    go_wp2_with fail
    go_at_call 173
    refine HX.out.mono ?_
    rintro e w' ⟨rfl, rfl⟩
    go_wp2_with fail
    go_at_call 173
    refine HY.out.mono ?_
    rintro e w' ⟨rfl, rfl⟩
    go_wp2_with fail
    go_ret
    exact ⟨rfl, rfl⟩
set_option maxHeartbeats 1000000 in
/-- The closure: two cells' turns compared. -/
theorem pfire1 (w : World) (b p g n c : Nat) (tt : Nat → Nat) (hb : w.cell? ⟨b, 0, none⟩ = some (.pointer (some ⟨p, 0, none⟩))) (h2 : w.cell? ⟨p, 2, none⟩ = some (.slice (some ⟨g, 0, none⟩) n c)) (hn : n ≤ 65536) (hc : ∀ j, j < n → w.cell? ⟨g, j * 3 + 2, none⟩ = some (.int .u64 (tt j : Int))) (x y : Nat) (hx : x < n) (hy : y < n) :
    Calls Tryz.prog 146 #[.int .i64 (x : Int), .int .i64 (y : Int), .pointer (some ⟨b, 0, none⟩)] w fun e w' => e = .returned (.int .i64 (cmpN (tt x) (tt y))) ∧ ∃ k, w' = w.drewN k := by
  have HC := Lib.hid fun k : Nat => Calls.quiet_of_same (w := w) (n := k) (pcompare (w.drewN k) (tt x) (tt y))
  have cx := hc x hx
  have cy := hc y hy
  have i0 : (0 : Int) ≤ (x : Int) := by omega
  have i1 : (x : Int) < (n : Int) := by omega
  have i2 : ((x : Int)).toNat = x := by omega
  have j0 : (0 : Int) ≤ (y : Int) := by omega
  have j1 : (y : Int) < (n : Int) := by omega
  have j2 : ((y : Int)).toNat = y := by omega
  clear hc
  generalize cmpN (tt x) (tt y) = rr at *
  generalize tt x = tx at *
  generalize tt y = ty at *
  go_enter Tryz.func146, Tryz.ntmps146
  go_upto_region 1 with fail
  go_quiet (first | (go_at_call 147; with_reducible exact HC.out _))
  go_wp2_with fail
  go_ret
  exact ⟨rfl, nq, rfl⟩
open Go.Sort (Holds putRow putCells mapBlock onCells grow PermIn SortedIn SWO) in
theorem kept_sorted {α : Type} [Inhabited α] (enc : α → Value) (w : World) (blk m : Nat) (dk : Array α) (os : Array Obj) : Kept (fun k => k = blk) w (sortWorld enc w blk 0 m dk os) := by
  refine ⟨rfl, rfl, rfl, ?_, fun k hk hn => ?_⟩
  · unfold sortWorld
    rw [Go.Sort.size_grow, size_putRow]
    exact Nat.le_add_right _ _
  · have hk2 : k < (putRow enc (Go.Sort.ahead w m) blk 0 dk).heap.size := by rw [size_putRow]; exact hk
    unfold sortWorld
    rw [Go.Sort.heap_grow_old _ _ hk2]
    unfold putRow mapBlock
    simp only [Array.getElem?_modify]
    rw [if_neg (fun e => hn e.symm)]
    rfl
open Go.Sort (Holds putRow putCells mapBlock onCells grow PermIn SortedIn SWO) in
theorem sorted_heap {α : Type} [Inhabited α] (enc : α → Value) (w : World) (blk m : Nat) (dk : Array α) (os : Array Obj) (cur : Array Value) (e : TypeId) (h : w.heap[blk]? = some (.cells cur e (0, 0))) : (sortWorld enc w blk 0 m dk os).heap[blk]? = some (.cells (putCells enc 0 dk cur) e (0, 0)) := by
  have hk2 : blk < (putRow enc (Go.Sort.ahead w m) blk 0 dk).heap.size := by rw [size_putRow]; exact lt_heap h
  unfold sortWorld
  rw [Go.Sort.heap_grow_old _ _ hk2]
  unfold putRow mapBlock
  simp only [Array.getElem?_modify, if_true]
  have : (Go.Sort.ahead w m).heap[blk]? = some (.cells cur e (0, 0)) := h
  rw [this]
  rfl
open Go.Sort (Holds putRow putCells mapBlock onCells grow PermIn SortedIn SWO) in
/-- A row sorted lies as it lay. -/
theorem own_sorted {α : Type} [Inhabited α] {enc : α → Value} {w : World} {base : Nat} {e : TypeId} {g n d : Nat} {f : Nat → Value} (h : OwnC w base e 1 (some ⟨g, 0, none⟩) n d f) (m : Nat) (dk : Array α) (hs : dk.size = n) (os : Array Obj) :
    OwnC (sortWorld enc w g 0 m dk os) base e 1 (some ⟨g, 0, none⟩) n d (fun k => enc dk[k]!) := by
  rcases h.2 with ⟨hh, _⟩ | ⟨g', cap, cur, hv, hb, hh, hc, hm, hcs, ht⟩
  · cases hh
  · injection hv with h1 _ h3
    injection h1 with h1
    injection h1 with h1
    subst h1 h3
    refine ⟨by rw [vals_len], .inr ⟨g, d, _, rfl, hb, sorted_heap enc w g m dk os cur e hh, hc, hm, ?_, ?_⟩⟩
    · unfold putCells
      rw [Array.size_mapIdx]
      exact hcs
    · rw [Nat.mul_one] at hcs ht ⊢
      apply List.ext_getElem?
      intro k
      by_cases hk : k < n
      · rw [List.getElem?_take, if_pos hk, vals_get hk, Array.getElem?_toList]
        unfold putCells
        rw [Array.getElem?_mapIdx, Array.getElem?_eq_getElem (by omega)]
        simp only [Option.map_some]
        rw [if_pos ⟨Nat.zero_le _, by omega⟩, Nat.sub_zero]
      · rw [List.getElem?_eq_none (by rw [List.length_take]; omega), List.getElem?_eq_none (by rw [vals_len]; omega)]
theorem cmpN_lt (x y : Nat) : decide (cmpN x y < 0) = decide (x < y) := by
  unfold cmpN
  by_cases h1 : x < y
  · simp [h1]
  · by_cases h2 : y < x
    · simp [h1, h2]
    · simp [h1, h2]
open Go.Sort (Holds putRow putCells mapBlock onCells grow PermIn SortedIn SWO) in
/-- What is due, sorted by the turns. -/
theorem psort {w : World} {p ap z g c : Nat} {A : Ar} {S : Sl} {now tn : Nat} {ta tw tt : Nat → Nat} {F : Nat → Prop} (h : WX w p ap z g c A S now tn ta tw tt F) {b gb base d : Nat} (hb : w.heap[b]? = some (.cells #[.pointer (some ⟨p, 0, none⟩)] 64 (0, 0))) {D : List Nat} (hD : ∀ x, x ∈ D → x < A.has.length) (hl : D.length ≤ 65536)
    (ho : OwnC w base 3 1 (some ⟨gb, 0, none⟩) D.length d (fun k => .int .i64 (D.getD k 0 : Int))) (hgF : ¬ F gb) (hgb : gb ≠ b) :
    Calls Tryz.prog 145 #[.slice (some ⟨gb, 0, none⟩) D.length d, .func (.func 146) #[] #[.pointer (some ⟨b, 0, none⟩)]] w fun e w' => e = .returned (.tuple #[]) ∧ ∃ D' : List Nat, D'.Perm D ∧ D'.Pairwise (fun x y => ¬ tt y < tt x) ∧
      OwnC w' base 3 1 (some ⟨gb, 0, none⟩) D.length d (fun k => .int .i64 (D'.getD k 0 : Int)) ∧ Kept (fun k => k = gb) w w' := by
  have hpos := h.pos
  letI : Inhabited (Fin A.has.length) := ⟨⟨0, hpos⟩⟩
  let enc : Fin A.has.length → Value := fun x => .int .i64 (x.val : Int)
  let cf : Fin A.has.length → Fin A.has.length → Int := fun x y => cmpN (tt x.val) (tt y.val)
  have hlt : ∀ x y, ltOf cf x y = decide (tt x.val < tt y.val) := fun x y => cmpN_lt _ _
  have hO : SWO (ltOf cf) := by
    refine ⟨fun x => ?_, fun x y z h1 h2 => ?_, fun x y z h1 h2 => ?_⟩
    · rw [hlt]
      simp
    · rw [hlt] at *
      simp at *
      omega
    · rw [hlt] at *
      simp at *
      omega
  let dl : List (Fin A.has.length) := D.pmap (fun x hx => ⟨x, hx⟩) hD
  have hdl : dl.length = D.length := List.length_pmap ..
  have hdm : dl.map (fun x => x.val) = D := by
    show (D.pmap _ hD).map _ = D
    rw [List.map_pmap]
    simp
  have hds : dl.toArray.size = D.length := hdl
  have hlies := ho.rd
  have hgl := ho.ltA
  have eg : ∀ args W, (callFunc 146 args).run Tryz.prog W = .ok (.enter 146 args) W := enters_of Tryz.func146 (by kernel_rfl) rfl
  have hcmp : CmpReads Tryz.prog 146 #[.pointer (some ⟨b, 0, none⟩)] enc cf gb 0 dl.toArray.size w := fun m os dk hs x y => by
    have hk := kept_sorted enc w gb m dk os
    have hx := h.keep hk fun k hF e => hgF (by rw [← e]; exact hF)
    exact pfire1 _ b p g A.has.length c tt (blk_cell ((hk.block b (lt_heap hb) (fun e => hgb e.symm)).trans hb) 0) (blk_cell hx.blk 2) hx.n (fun j hj => hx.t2 hj) x.val y.val x.isLt y.isLt
  have hget : ∀ k, k < D.length → enc dl.toArray[k]! = .int .i64 (D.getD k 0 : Int) := fun k hk => by
    have hk2 : k < dl.length := by rw [hdl]; exact hk
    have e1 : dl.toArray[k]! = dl[k] := by
      rw [getElem!_pos dl.toArray k (by simpa using hk2)]
      rfl
    rw [e1]
    have e2 : D[k]? = some (dl[k]).val := by
      rw [← hdm, List.getElem?_map, List.getElem?_eq_getElem hk2]
      rfl
    show Value.int .i64 ((dl[k]).val : Int) = _
    rw [List.getD_eq_getElem?_getD, e2]
    rfl
  have hH : Holds enc w gb 0 dl.toArray := fun j hj => by
    have hj' : j < D.length := by rw [← hds]; exact hj
    rw [hget j hj', Nat.zero_add]
    obtain ⟨g', e, _, _, hc, hf⟩ := ho.lies (by omega)
    injection e with e
    injection e with e
    subst e
    exact ⟨hc j (by omega), hf j⟩
  have hcon := Any.slices_SortFunc Tryz.sortInts enc (fun _ => rfl) cf hO 146 #[.pointer (some ⟨b, 0, none⟩)] gb 0 d dl.toArray w eg hcmp.lays hH hgl (by rw [hds]; omega)
  rw [hds] at hcon
  refine Calls.mono hcon ?_
  rintro e w' ⟨rfl, d', n, os, hp, hs, rfl⟩
  have hsz : d'.size = D.length := hp.1.trans hds
  refine ⟨rfl, d'.toList.map (fun x => x.val), ?_, ?_, ?_, kept_sorted enc w gb n d' os⟩
  · have hperm := hp.2.2
    rw [show d'.extract 0 D.length = d' by rw [← hsz]; simp, show dl.toArray.extract 0 D.length = dl.toArray by rw [← hds]; simp] at hperm
    have := hperm.map (fun x => x.val)
    rw [show dl.toArray.toList = dl from rfl, hdm] at this
    exact this
  · rw [List.pairwise_map, List.pairwise_iff_getElem]
    intro i j hi hj hij
    have hi' : i < d'.size := by simpa using hi
    have hj' : j < d'.size := by simpa using hj
    have := hs i j (Nat.zero_le _) hij (by omega)
    rw [hlt, getElem!_pos d' i hi', getElem!_pos d' j hj'] at this
    simpa using this
  · refine (own_sorted (enc := enc) ho n d' hsz os).same fun k hk => ?_
    have hk' : k < d'.size := by omega
    show _ = Value.int .i64 ((d'[k]!).val : Int)
    rw [getElem!_pos d' k hk', List.getD_eq_getElem?_getD, List.getElem?_map, List.getElem?_eq_getElem (by simpa using hk')]
    rfl
end Go.Proofs.YtimcdnbfdkpffaaGreat
/- Stage 11: nothing sorted. -/
namespace Go.Proofs.YtimcdnbfdkpffaaGreat
set_option maxRecDepth 100000
open Go.RowKit Go.Shelf
theorem plen_none (w : World) : Calls Tryz.prog 172 #[.int .u64 0] w fun e w' => e = .returned (.int .i64 0) ∧ w' = w := by
  have HC := Lib.hid (plen64 0 (by omega) w)
  have h0 : Lib.bitLen 0 = 0 := Lib.bitLenAux_zero _
  rw [h0] at HC
  clear h0
  go_enter Tryz.func172, Tryz.ntmps172
  go_wp2_with (first
    | (go_at_call 169
       refine HC.out.mono ?_
       rintro e w' ⟨rfl, rfl⟩))
  go_ret
  exact ⟨rfl, rfl⟩
theorem pins_none (w : World) (B : Option Addr) (d : Nat) (fv : Value) : Calls Tryz.prog 183 #[.slice B 0 d, .int .i64 0, .int .i64 0, fv] w fun e w' => e = .returned (.tuple #[]) ∧ w' = w := by
  go_enter Tryz.func183, Tryz.ntmps183
  go_wp2_with fail
  refine wp_loop_rounds 1 ?_
  rw [rounds_succ]
  go_wp2_with fail
  go_end0
  exact ⟨rfl, rfl⟩
theorem ppdq_none (w : World) (B : Option Addr) (d : Nat) (fv : Value) : Calls Tryz.prog 171 #[.slice B 0 d, .int .i64 0, .int .i64 0, .int .i64 0, fv] w fun e w' => e = .returned (.tuple #[]) ∧ w' = w := by
  have HC := Lib.hid (pins_none w B d fv)
  go_enter Tryz.func171, Tryz.ntmps171
  go_wp2_with fail
  refine wp_loop_rounds 1 ?_
  rw [rounds_succ]
  go_wp2_with (first
    | (go_at_call 183
       refine HC.out.mono ?_
       rintro e w' ⟨rfl, rfl⟩))
  (try simp only [Exit.inBlock, Exit.then])
  refine bodyPost_ret (results_none rfl _ _ _) rfl ?_
  exact ⟨rfl, rfl⟩
theorem psort_none (w : World) (B : Option Addr) (d : Nat) (fv : Value) : Calls Tryz.prog 145 #[.slice B 0 d, fv] w fun e w' => e = .returned (.tuple #[]) ∧ w' = w := by
  have HC := Lib.hid (ppdq_none w B d fv)
  have HL := Lib.hid (plen_none w)
  go_enter Tryz.func145, Tryz.ntmps145
  go_wp2_with (first
    | (go_at_call 172
       refine HL.out.mono ?_
       rintro e w' ⟨rfl, rfl⟩)
    | (go_at_call 171
       refine HC.out.mono ?_
       rintro e w' ⟨rfl, rfl⟩))
  go_end0
  exact ⟨rfl, rfl⟩
end Go.Proofs.YtimcdnbfdkpffaaGreat
/- Stage 11: the landed fire. -/
namespace Go.Proofs.YtimcdnbfdkpffaaGreat
set_option maxRecDepth 100000
open Go.RowKit Go.Shelf
theorem Tryz.infoFI : (Tryz.prog.info? 108).map (fun i => (i.zero, i.size, i.bytes)) = some (some (.agg #[.int .i64 0, .int .u64 0, .int .u64 0]), 3, 24) := by kernel_rfl
/-- A block of another type than a row's elements is not the row's. -/
theorem own_other {w : World} {base size : Nat} {e : TypeId} {E : Option Addr} {n d : Nat} {f : Nat → Value} (h : OwnC w base e size E n d f) {q : Nat} {cs : Array Value} {t : TypeId} {fr : Nat × Nat} (hq : w.heap[q]? = some (.cells cs t fr)) (hte : t ≠ e) : some q ≠ Value.ownBlock (.slice E n d) := fun he => by
  obtain ⟨a, e1, e2⟩ := ownBlock_some he.symm
  rcases h.2 with ⟨hh, _⟩ | ⟨g', cap, cur, hv, _, hh, _⟩
  · rw [e1] at hh
    cases hh
  · injection hv with h1 _ _
    rw [e1] at h1
    injection h1 with h1
    rw [h1] at e2
    have e2 : g' = q := e2
    rw [← e2, hh] at hq
    injection hq with hq
    injection hq with _ hq _
    exact hte hq.symm
theorem rows_apart {w : World} {base base' size size' : Nat} {e e' : TypeId} {B E : Option Addr} {n n' d d' : Nat} {f f' : Nat → Value} (h : OwnC w base e size B n d f) (h' : OwnC w base' e' size' E n' d' f') (hte : e ≠ e') {k : Nat} (hk : Value.ownBlock (.slice B n d) = some k) : some k ≠ Value.ownBlock (.slice E n' d') := by
  obtain ⟨a, e1, e2⟩ := ownBlock_some hk
  rcases h.2 with ⟨hh, _⟩ | ⟨g', cap, cur, hv, _, hh, _⟩
  · rw [e1] at hh
    cases hh
  · injection hv with h1 _ _
    rw [e1] at h1
    injection h1 with h1
    rw [h1] at e2
    have e2 : g' = k := e2
    subst e2
    exact own_other h' hh hte
theorem own_grown {w w' : World} {base size : Nat} {e : TypeId} {B : Option Addr} {n d : Nat} {f : Nat → Value} (h : OwnC w base e size B n d f) {row : Option Nat} (hg : w.grownBy w' row) (hne : ∀ k, Value.ownBlock (.slice B n d) = some k → some k ≠ row) : OwnC w' base e size B n d f :=
  h.keepAny fun g' e => hg.block g' (by subst e; exact h.ltA) (hne g' (by rw [e]; rfl))
theorem goneL_snoc (a : Ar) (l : List Nat) (x : Nat) : goneL a (l ++ [x]) = (goneL a l).gone x := by
  unfold goneL
  rw [List.foldl_append]
  rfl
theorem take_snoc {D : List Nat} {j x : Nat} (h : D[j]? = some x) : D.take (j + 1) = D.take j ++ [x] := by
  obtain ⟨hj, e⟩ := List.getElem?_eq_some_iff.1 h
  rw [List.take_add_one, h]
  rfl
theorem not_taken {D : List Nat} {j x : Nat} (hn : D.Nodup) (h : D[j]? = some x) : ¬ x ∈ D.take j := fun hm => by
  have h1 : (D.take (j + 1)).Nodup := hn.sublist (List.take_sublist ..)
  rw [take_snoc h, List.nodup_append] at h1
  exact h1.2.2 x hm x (by simp) rfl
/-- How far what is due has been told. -/
def FST (A : Ar) (S : Sl) (now : Nat) (ta tw tt : Nat → Nat) (D : List Nat) (j : Nat) (ta5 tw5 tt5 : Nat → Nat) : Prop :=
  Plc (Lse 0 now) S (goneL A (D.take j)) ta5 (fun i => i ∈ D.drop j) ∧ ∀ i, ¬ i ∈ D.take j → ta5 i = ta i ∧ tw5 i = tw i ∧ tt5 i = tt i
theorem FST.step {A : Ar} {S : Sl} {now : Nat} {ta tw tt ta5 tw5 tt5 : Nat → Nat} {D : List Nat} {j x : Nat} (hA : A.Ok) (hn : D.Nodup) (hD : ∀ i, i ∈ D → A.at_ i ≠ 0) (hx : D[j]? = some x) (h : FST A S now ta tw tt D j ta5 tw5 tt5) :
    FST A S now ta tw tt D (j + 1) (updN ta5 x 0) (updN tw5 x 0) (updN tt5 x 0) := by
  obtain ⟨h1, h2⟩ := h
  obtain ⟨hj, e⟩ := List.getElem?_eq_some_iff.1 hx
  have hd : D.drop j = x :: D.drop (j + 1) := by rw [List.drop_eq_getElem_cons hj, e]
  have hnd : (x :: D.drop (j + 1)).Nodup := by rw [← hd]; exact hn.sublist (List.drop_sublist ..)
  have hxd : x ∈ D.drop j := by rw [hd]; exact List.mem_cons_self ..
  have h0 := h1.out x hxd
  have hf := h1.free hxd
  rw [← goneL_snoc, ← take_snoc hx] at hf
  refine ⟨(hf.imp (L' := Lse 0 now) (ta' := updN ta5 x 0) fun i q hi _ _ hL => ?_).iff fun i => ?_, fun i hi => ?_⟩
  · have hi : (goneL A (D.take (j + 1))).at_ i ≠ 0 := hi
    rw [take_snoc hx, goneL_snoc, Ar.at_gone h0] at hi
    split at hi
    · exact absurd rfl hi
    · rename_i hne
      rw [updN_ne hne]
      exact hL
  · rw [hd]
    constructor
    · rintro ⟨h3, h4⟩
      exact (List.mem_cons.1 h3).resolve_left h4
    · exact fun h3 => ⟨List.mem_cons_of_mem _ h3, fun e => (List.nodup_cons.1 hnd).1 (by rw [← e]; exact h3)⟩
  · rw [take_snoc hx] at hi
    have h3 : ¬ i ∈ D.take j := fun q => hi (List.mem_append_left _ q)
    have h4 : i ≠ x := fun q => hi (by rw [q]; simp)
    rw [updN_ne h4, updN_ne h4, updN_ne h4]
    exact h2 i h3
theorem FST.last {A : Ar} {S : Sl} {now : Nat} {ta tw tt ta5 tw5 tt5 : Nat → Nat} {D : List Nat} {n : Nat} (hl : D.length = n) (h : FST A S now ta tw tt D n ta5 tw5 tt5) :
    Plc (Lse 0 now) S (goneL A D) ta5 (fun _ => False) ∧ ∀ i, ¬ i ∈ D → ta5 i = ta i ∧ tw5 i = tw i ∧ tt5 i = tt i := by
  obtain ⟨h1, h2⟩ := h
  subst hl
  rw [List.take_length] at h1 h2
  exact ⟨h1.iff fun i => by simp, h2⟩
theorem Ext.own_kept {F F' R : Nat → Prop} {w w' w'' : World} (h : Ext F F' w w') (hk : Kept R w' w'') (hR : ∀ k, R k → w.heap.size ≤ k) : Ext F F' w w'' := by
  refine ⟨fun k q => ?_, h.kept.trans hk fun k hl e => ?_⟩
  · rcases h.sub k q with q | ⟨q1, q2⟩
    · exact .inl q
    · exact .inr ⟨q1, Nat.lt_of_lt_of_le q2 hk.size⟩
  · have := hR k e
    omega
set_option maxHeartbeats 1000000 in
theorem pwfire {w : World} {p ap z g c : Nat} {A : Ar} {S : Sl} {now tn : Nat} {ta tw tt : Nat → Nat} {F : Nat → Prop} (h : WX w p ap z g c A S now tn ta tw tt F) (hA : A.Ok) (hnow : now < 18446744073709551616) (hp : Plc (Lse 0 now) S A ta (fun _ => False)) :
    Calls Tryz.prog 94 #[.pointer (some ⟨p, 0, none⟩)] w fun e w' => ∃ D : List Nat, D.Perm (S.at_ (slt 0 now)) ∧ D.Pairwise (fun x y => ¬ tt y < tt x) ∧ ∃ E dE F' S2 ta2 tw2 tt2, e = .returned (.slice E D.length dE) ∧ OwnC w' w.heap.size 108 3 E D.length dE (rwc 3 fev (D.map fun x => (⟨x, A.at_ x, now, tw x⟩ : Tm))) ∧
      WX w' p ap z g c (goneL A D) S2 now tn ta2 tw2 tt2 F' ∧ Ext F F' w w' ∧ (∀ k, Value.ownBlock (.slice E D.length dE) = some k → ¬ F' k) ∧ Plc (Lse 0 now) S2 (goneL A D) ta2 (fun _ => False) ∧ ∀ i, ¬ i ∈ D → ta2 i = ta i ∧ tw2 i = tw i ∧ tt2 i = tt i := by
  obtain ⟨i0, hi0, hz0, hz1, hz2⟩ := info_parts Tryz.infoFI
  have HI0 := Lib.hid hi0
  have HZ0 := Lib.hid hz0
  have HZ1 := Lib.hid hz1
  have HZ2 := Lib.hid hz2
  clear hi0 hz0 hz1 hz2
  have HAOK0 := Lib.hid hA
  have hfit := hp.fit h.n
  obtain ⟨ot, hot⟩ : ∃ ot : Nat → Tm, ∀ x, ot x = ⟨x, A.at_ x, now, tw x⟩ := ⟨_, fun _ => rfl⟩
  have hotf : ot = fun x => (⟨x, A.at_ x, now, tw x⟩ : Tm) := funext hot
  have HSL := Lib.hid fun W => pslot W 0 (by omega) now hnow
  have HEM := Lib.hid fun (W : World) (Fw : Nat → Prop) (hx : WX W p ap z g c A S now tn ta tw tt Fw) => pwempty hx hfit hp.len (slt 0 now) (slt_lt (by omega) now)
  have HPE : Hid (Plc (Lse 0 now) (S.put (slt 0 now) []) A ta (fun i => i ∈ S.at_ (slt 0 now))) := Lib.hid ((hp.emptied (slt_lt (by omega) now)).iff fun i => by simp)
  have HLND := Lib.hid (hp.ok.nodup (slt 0 now))
  have HLT : Hid (∀ x, x ∈ S.at_ (slt 0 now) → x < A.has.length) := Lib.hid fun x hx => by
    have := hp.ok.low _ x hx
    rw [hp.cells] at this
    exact this
  have HLV0 : Hid (∀ x, x ∈ S.at_ (slt 0 now) → A.at_ x ≠ 0) := Lib.hid fun x hx => (hp.mem _ x hx).1
  have HL9 : Hid ((S.at_ (slt 0 now)).length ≤ 65536) := Lib.hid (Nat.le_trans (Sl.at_length hp.ok _) hfit.m)
  generalize S.put (slt 0 now) [] = S2 at *
  generalize S.at_ (slt 0 now) = L at *
  generalize slt 0 now = sq at *
  obtain ⟨n, hln⟩ : ∃ n, n = L.length := ⟨_, rfl⟩
  have HLN := Lib.hid hln
  rw [← hln] at HEM HL9
  have HX1 := Lib.hid (h.step (below_alloc w (.cells #[.pointer (some ⟨p, 0, none⟩)] 64)))
  have HE1 := Lib.hid ((Ext.refl F w).step (below_alloc w (.cells #[.pointer (some ⟨p, 0, none⟩)] 64)))
  have HBX1 : Hid ((w.alloc (.cells #[.pointer (some ⟨p, 0, none⟩)] 64)).heap[w.heap.size]? = some (.cells #[.pointer (some ⟨p, 0, none⟩)] 64 (0, 0))) := Lib.hid (heap_alloc_new w _)
  obtain ⟨b, hbw⟩ : ∃ b, b = w.heap.size := ⟨_, rfl⟩
  rw [← hbw] at HBX1
  have HNB0 : Hid (¬ F b) := Lib.hid fun hF => by have := h.old b hF; omega
  clear hln h hA hp hfit
  go_enter Tryz.func94, Tryz.ntmps94
  go_upto_region 1 with fail
  change Code.wp _ _ _ _ (w.alloc (.cells #[.pointer (some ⟨p, 0, none⟩)] 64))
  rw [← hbw]
  clear hbw
  generalize w.alloc (.cells #[.pointer (some ⟨p, 0, none⟩)] 64) = u1 at *
  have x0 : u1.cell? ⟨b, 0, none⟩ = some (.pointer (some ⟨p, 0, none⟩)) := blk_cell HBX1.out 0
  have x3 : u1.cell? ⟨p, 3, none⟩ = some (.int .u64 (now : Int)) := blk_cell HX1.out.blk 3
  have HBL : Hid (b < u1.heap.size) := Lib.hid (lt_heap HBX1.out)
  have HPL : Hid (p < u1.heap.size) := Lib.hid (lt_heap HX1.out.blk)
  refine wp_region_grow (C := fun W => Below u1.heap.size u1 W) 6 52 [val (.pointer (some ⟨p, 0, none⟩)), val (.pointer (some ⟨p, 0, none⟩)), val (.pointer (some ⟨p, 0, none⟩)), val (.pointer (some ⟨p, 3, none⟩)), val (.int .u64 (now : Int)), val (.int .i64 (sq : Int))] (by kernel_rfl) rfl (by kernel_rfl) rfl ⟨stb_val _, stb_val _, stb_val _, stb_val _, stb_val _, stb_val _, trivial⟩ (Below.refl _ _).drew ?_ ?_
  · refine each_cons ?_ ?_
    · intro a W hW hd
      have h1 : a.tmps[1]?.getD undef = .pointer (some ⟨b, 0, none⟩) := slot_eq (hd 1 (by decide))
      have xx : W.cell? ⟨b, 0, none⟩ = some (.pointer (some ⟨p, 0, none⟩)) := (hW.cell (p := ⟨b, 0, none⟩) HBL.out).trans x0
      refine grows_value _ hW (?_ : _ = _) rfl
      clear hd
      go_simp
    refine each_cons ?_ ?_
    · intro a W hW hd
      have h1 : a.tmps[1]?.getD undef = .pointer (some ⟨b, 0, none⟩) := slot_eq (hd 1 (by decide))
      have xx : W.cell? ⟨b, 0, none⟩ = some (.pointer (some ⟨p, 0, none⟩)) := (hW.cell (p := ⟨b, 0, none⟩) HBL.out).trans x0
      refine grows_value _ hW (?_ : _ = _) rfl
      clear hd
      go_simp
    refine each_cons ?_ ?_
    · intro a W hW hd
      have h10 : a.tmps[10]?.getD undef = .pointer (some ⟨p, 0, none⟩) := slot_eq (hd 10 (by decide))
      refine grows_value _ hW (?_ : _ = _) rfl
      clear hd
      go_simp
    refine each_cons ?_ ?_
    · intro a W hW hd
      have h11 : a.tmps[11]?.getD undef = .pointer (some ⟨p, 0, none⟩) := slot_eq (hd 11 (by decide))
      refine grows_value _ hW (?_ : _ = _) rfl
      clear hd
      go_simp
    refine each_cons ?_ ?_
    · intro a W hW hd
      have h12 : a.tmps[12]?.getD undef = .pointer (some ⟨p, 3, none⟩) := slot_eq (hd 12 (by decide))
      have xx : W.cell? ⟨p, 3, none⟩ = some (.int .u64 (now : Int)) := (hW.cell (p := ⟨p, 3, none⟩) HPL.out).trans x3
      refine grows_value _ hW (?_ : _ = _) rfl
      clear hd
      go_simp
    refine each_cons ?_ ?_
    · intro a W hW hd
      have h13 : a.tmps[13]?.getD undef = .int .u64 (now : Int) := slot_eq (hd 13 (by decide))
      refine grows_call (fn := 143) (args := #[.int .i64 0, .int .u64 (now : Int)]) (by clear hd; go_simp) ?_
      refine (HSL.out W).mono ?_
      rintro e W' ⟨rfl, hb⟩
      exact ⟨_, rfl, rfl, hb, hW.trans (hb.mono hW.size)⟩
    exact each_nil
  · refine behind_val rfl ?_
    refine behind_val rfl ?_
    refine behind_val rfl ?_
    refine behind_val rfl ?_
    refine behind_val rfl ?_
    refine behind_val rfl ?_
    refine behind_nil fun u2 hC1 hF1 => ?_
    clear hF1
    have HX2 := Lib.hid (HX1.out.step hC1)
    have HE2 := Lib.hid (HE1.out.step hC1)
    have HBX2 : Hid (u2.heap[b]? = some (.cells #[.pointer (some ⟨p, 0, none⟩)] 64 (0, 0))) := Lib.hid ((hC1.block _ (lt_heap HBX1.out)).trans HBX1.out)
    clear hC1 x0 x3
    simp only [Act.put, List.setIfInBounds_toArray, List.set_cons_succ, List.set_cons_zero, List.drop_succ_cons, List.drop_zero]
    go_upto_region 2 with (first
      | (go_at_call 142
         refine (HEM.out _ _ HX2.out).mono ?_
         rintro e u3 ⟨B, d, rfl, ho, F3, hx3, he3, hnf3⟩
         have HX3 := Lib.hid hx3
         have HE3 := Lib.hid (HE2.out.trans he3)
         have HO3 := Lib.hid (ho.le HE2.out.kept.size)
         have HN3 := Lib.hid hnf3
         have HBX3 : Hid (u3.heap[b]? = some (.cells #[.pointer (some ⟨p, 0, none⟩)] 64 (0, 0))) := Lib.hid ((he3.kept.block b (lt_heap HBX2.out) HNB0.out).trans HBX2.out)
         have HNB3 : Hid (¬ F3 b) := Lib.hid fun hF => (he3.sub b hF).elim HNB0.out fun h => by have := lt_heap HBX2.out; omega
         have HBB3 : Hid (∀ k, Value.ownBlock (.slice B n d) = some k → k ≠ b) := Lib.hid fun k e hk => by
           subst hk
           exact own_other HO3.out HBX3.out (by decide) e.symm
         clear ho hx3 he3 hnf3 HX2 HE2 HBX2 HEM))
    have hmf : ∀ W, (Instr.makeFunc (.func 146) #[] #[.pointer (some ⟨b, 0, none⟩)]).run Tryz.prog W = .ok (.func (.func 146) #[] #[.pointer (some ⟨b, 0, none⟩)]) W := fun W => by rfl
    have hso : Calls Tryz.prog 145 #[.slice B n d, .func (.func 146) #[] #[.pointer (some ⟨b, 0, none⟩)]] u3 fun e w' => e = .returned (.tuple #[]) ∧ ∃ D : List Nat, D.Perm L ∧ D.Pairwise (fun x y => ¬ tt y < tt x) ∧ OwnC w' w.heap.size 3 1 B n d (fun k => .int .i64 (D.getD k 0 : Int)) ∧ Kept (fun k => Value.ownBlock (.slice B n d) = some k) u3 w' := by
      rcases Nat.eq_zero_or_pos n with h0 | h0
      · have hl0 : L = [] := List.eq_nil_of_length_eq_zero (by rw [← HLN.out]; exact h0)
        subst h0
        have hc0 := psort_none u3 B d (.func (.func 146) #[] #[.pointer (some ⟨b, 0, none⟩)])
        refine Calls.mono hc0 ?_
        rintro e w' ⟨rfl, rfl⟩
        exact ⟨rfl, [], by rw [hl0], List.Pairwise.nil, HO3.out.same fun k hk => absurd hk (by omega), Kept.refl _ _⟩
      · obtain ⟨gb, hgb, _⟩ := HO3.out.lies h0
        subst hgb
        have hh := psort HX3.out HBX3.out (D := L) HLT.out (by rw [← HLN.out]; exact HL9.out) (by rw [← HLN.out]; exact HO3.out) (HN3.out gb rfl) (HBB3.out gb rfl)
        rw [← HLN.out] at hh
        refine hh.mono ?_
        rintro e w' ⟨rfl, D, h1, h2, h3, h4⟩
        exact ⟨rfl, D, h1, h2, h3, h4.mono fun k _ e => by rw [e]; rfl⟩
    have HSO := Lib.hid hso
    clear hso
    go_upto_region 3 with (first
      | (go_at_call 145
         refine HSO.out.mono ?_
         rintro e u4 ⟨rfl, D, hpm, hpw, ho4, hk4⟩))
    clear hmf
    have HX4 := Lib.hid (HX3.out.keep hk4 fun k hF e => HN3.out k e hF)
    have HE4 : Hid (Ext F F3 w u4) := Lib.hid (HE3.out.own_kept hk4 fun k e => HO3.out.at_ k e)
    have HD4 := Lib.hid ho4
    have HN4 := HN3
    have HBX4 : Hid (u4.heap[b]? = some (.cells #[.pointer (some ⟨p, 0, none⟩)] 64 (0, 0))) := Lib.hid ((hk4.block b (lt_heap HBX3.out) (fun e => HBB3.out b e rfl)).trans HBX3.out)
    have HDL : Hid (D.length = n) := Lib.hid (by rw [HLN.out]; exact hpm.length_eq)
    have HDN : Hid D.Nodup := Lib.hid (hpm.nodup_iff.2 HLND.out)
    have HDM : Hid (∀ x, x ∈ D → A.at_ x ≠ 0 ∧ x < A.has.length) := Lib.hid fun x hx => ⟨(HLV0.out x (hpm.mem_iff.1 hx)), HLT.out x (hpm.mem_iff.1 hx)⟩
    have HST0 : Hid (FST A S2 now ta tw tt D 0 ta tw tt) := Lib.hid ⟨HPE.out.iff fun i => by simp [hpm.mem_iff], fun i _ => ⟨rfl, rfl, rfl⟩⟩
    have HPM := Lib.hid hpm
    have HPW := Lib.hid hpw
    clear ho4 hk4 hpm hpw HX3 HE3 HO3 HN3 HBX3 HBB3 HSO HLN HLND HLV0 HLT HPE
    go_wp2_with fail
    go_loopw [4, 21] (fun o vi wr => ∃ (j : Nat) (E : Option Addr) (dE : Nat) (F5 : Nat → Prop) (ta5 tw5 tt5 : Nat → Nat), vi = .int .i64 (j : Int) ∧ o = .slice E j dE ∧ j ≤ n ∧ OwnC wr w.heap.size 108 3 E j dE (rwc 3 fev ((D.take j).map ot)) ∧ WX wr p ap z g c (goneL A (D.take j)) S2 now tn ta5 tw5 tt5 F5 ∧ Ext F F5 w wr ∧ OwnC wr w.heap.size 3 1 B n d (fun k => .int .i64 (D.getD k 0 : Int)) ∧ (∀ k, Value.ownBlock (.slice B n d) = some k → ¬ F5 k) ∧ (∀ k, Value.ownBlock (.slice E j dE) = some k → ¬ F5 k) ∧ wr.heap[b]? = some (.cells #[.pointer (some ⟨p, 0, none⟩)] 64 (0, 0)) ∧ ¬ F5 b ∧ FST A S2 now ta tw tt D j ta5 tw5 tt5) (fun _ vi _ => n - (intOf vi).toNat)
    case atStart => exact ⟨0, none, 0, F3, ta, tw, tt, rfl, rfl, Nat.zero_le _, OwnC.nil_ _ _ _ _ _, HX4.out, HE4.out, HD4.out, HN4.out, (fun k e => by cases e), HBX4.out, HNB3.out, HST0.out⟩
    case round =>
      obtain ⟨j, E, dE, F5, ta5, tw5, tt5, rfl, rfl, hj, hr, hx, he, hd, hnd, hnr, hbx, hnb, hst⟩ := hrel
      have HR := Lib.hid hr
      have HX := Lib.hid hx
      have HE := Lib.hid he
      have HD := Lib.hid hd
      have HND := Lib.hid hnd
      have HNR := Lib.hid hnr
      have HBX := Lib.hid hbx
      have HNB := Lib.hid hnb
      have HSJ := Lib.hid hst
      clear hr hx he hd hnd hnr hbx hnb hst HX4 HE4 HD4 HN4 HBX4 HNB3 HST0
      have hl9 := HL9.out
      by_cases hjn : j < n
      · have j1 : (j : Int) < (n : Int) := by omega
        have j0 : (0 : Int) ≤ (j : Int) := by omega
        have j2 : ((j : Int)).toNat = j := by omega
        have zj : IntKind.i64.wrap ((j : Int) + 1) = (j : Int) + 1 := by rw [IntKind.wrap_i64]; omega
        have hjd : j < D.length := by rw [HDL.out]; exact hjn
        obtain ⟨x, hxx⟩ : ∃ x, D[j]? = some x := ⟨_, List.getElem?_eq_getElem hjd⟩
        have hgx : D.getD j 0 = x := by rw [List.getD_eq_getElem?_getD, hxx]; rfl
        obtain ⟨hax, hxm⟩ := HDM.out x (List.mem_of_getElem? hxx)
        have HDT : Hid ((D.take j).length = j) := Lib.hid (by rw [List.length_take]; omega)
        have HTK : Hid (D.take (j + 1) = D.take j ++ [x]) := Lib.hid (take_snoc hxx)
        have HGN : Hid (goneL A (D.take j ++ [x]) = (goneL A (D.take j)).gone x) := Lib.hid (goneL_snoc ..)
        obtain ⟨q1, q2, q3, q4, q5⟩ := goneL_facts (D.take j) A HAOK0.out (HDN.out.sublist (List.take_sublist ..)) (fun i hi => (HDM.out i (List.mem_of_mem_take hi)).1)
        have hnt := not_taken HDN.out hxx
        have hk2 : (goneL A (D.take j)).at_ x = A.at_ x := by rw [q2, if_neg hnt]
        have HAOK := Lib.hid q1
        have HLV : Hid ((goneL A (D.take j)).live (x : Int) (A.at_ x) = true) := Lib.hid (Ar.live_iff.2 ⟨by omega, hax, by rw [show ((x : Int)).toNat = x by omega, hk2]⟩)
        have hxm2 : x < (goneL A (D.take j)).has.length := by rw [q5]; exact hxm
        have HST := Lib.hid (FST.step HAOK0.out HDN.out (fun i hi => (HDM.out i hi).1) hxx HSJ.out)
        have HWX : Hid (tw5 x = tw x) := Lib.hid (HSJ.out.2 x hnt).2.1
        have hmn : (goneL A (D.take j)).has.length ≤ 65536 := HX.out.n
        have HAT : Hid (Calls Tryz.prog 136 #[.pointer (some ⟨ap, 0, none⟩), .int .i64 (x : Int)] wr (ret (.tuple #[.agg #[.int .i64 (x : Int), .int .u64 (A.at_ x : Int)], .bool true]) wr)) := Lib.hid (HX.out.arq fun Fa hA => by
          have h9 := pat_any hA hmn (x : Int)
          have e1 : (goneL A (D.take j)).is_ (x : Int) = true := by
            unfold Ar.is_
            rw [show ((x : Int)).toNat = x by omega, hk2]
            simp [hax]
          unfold Ar.hat at h9
          rw [e1, show ((x : Int)).toNat = x by omega, hk2] at h9
          exact h9)
        obtain ⟨kx, hkx⟩ : ∃ kx, kx = A.at_ x := ⟨_, rfl⟩
        obtain ⟨wx, hwx⟩ : ∃ wx, wx = tw x := ⟨_, rfl⟩
        have HOTX : Hid (fev (ot x) = #[.int .i64 (x : Int), .int .u64 (kx : Int), .int .u64 (wx : Int)]) := Lib.hid (by rw [hot x, hkx, hwx]; rfl)
        rw [← hkx] at HLV HAT
        rw [← hwx] at HWX
        obtain ⟨m, hm⟩ : ∃ m, m = (goneL A (D.take j)).has.length := ⟨_, rfl⟩
        have HMM := Lib.hid hm
        rw [← hm] at hxm2
        have i0' : (0 : Int) ≤ (x : Int) := by omega
        have i1' : (x : Int) < (m : Int) := by omega
        have i2' : ((x : Int)).toNat = x := by omega
        have cap := HX.out.cap9
        rw [← hm] at cap
        have capd := HD.out.cap
        have capd9 := HD.out.cap_le
        unfold maxLen at capd9
        obtain ⟨gb, hgb, _, _, hc, _⟩ := HD.out.lies (by omega)
        have xj : wr.cell? ⟨gb, j, none⟩ = some (.int .i64 (x : Int)) := by rw [← hgx]; exact hc j (by omega)
        subst hgb
        have x0 : wr.cell? ⟨b, 0, none⟩ = some (.pointer (some ⟨p, 0, none⟩)) := blk_cell HBX.out 0
        have xa : wr.cell? ⟨p, 0, none⟩ = some (.pointer (some ⟨ap, 0, none⟩)) := blk_cell HX.out.blk 0
        clear hc hgx hax hxm hkx hwx hm hxx q1 q2 q3 q4 q5 hnt hk2 hmn hxm2 HSJ
        go_upto_region 8 with (first
          | (go_at_call 136
             refine HAT.out.mono ?_
             rintro e u ⟨rfl, hbb⟩
             have HX6 := Lib.hid (HX.out.step hbb)
             have HE6 := Lib.hid (HE.out.step hbb)
             have HD6 := Lib.hid (HD.out.below hbb)
             have HR6 := Lib.hid (HR.out.below hbb)
             have HBX6 : Hid (u.heap[b]? = some (.cells #[.pointer (some ⟨p, 0, none⟩)] 64 (0, 0))) := Lib.hid ((hbb.block _ (lt_heap HBX.out)).trans HBX.out)
             clear hbb x0 xa xj))
        have hal := below_alloc u (.cells #[.int .i64 (x : Int), .int .u64 (kx : Int)] 95)
        have HX7 := Lib.hid (HX6.out.step hal)
        have HE7 := Lib.hid (HE6.out.step hal)
        have HD7 := Lib.hid (HD6.out.below hal)
        have HR7 := Lib.hid (HR6.out.below hal)
        have HBX7 : Hid ((u.alloc (.cells #[.int .i64 (x : Int), .int .u64 (kx : Int)] 95)).heap[b]? = some (.cells #[.pointer (some ⟨p, 0, none⟩)] 64 (0, 0))) := Lib.hid (blk_old HBX6.out _)
        have HHB7 : Hid ((u.alloc (.cells #[.int .i64 (x : Int), .int .u64 (kx : Int)] 95)).heap[u.heap.size]? = some (.cells #[.int .i64 (x : Int), .int .u64 (kx : Int)] 95 (0, 0))) := Lib.hid (heap_alloc_new u _)
        clear hal HX6 HE6 HD6 HR6 HBX6 HX HE HD HR HBX
        change Code.wp _ _ _ _ (u.alloc (.cells #[.int .i64 (x : Int), .int .u64 (kx : Int)] 95))
        generalize u.heap.size = hb at *
        generalize u.alloc (.cells #[.int .i64 (x : Int), .int .u64 (kx : Int)] 95) = v7 at *
        have x0 : v7.cell? ⟨b, 0, none⟩ = some (.pointer (some ⟨p, 0, none⟩)) := blk_cell HBX7.out 0
        have x2 : v7.cell? ⟨p, 2, none⟩ = some (.slice (some ⟨g, 0, none⟩) m c) := by rw [HMM.out]; exact blk_cell HX7.out.blk 2
        have xg : v7.cell? ⟨g, x * 3 + 1, none⟩ = some (.int .u64 (wx : Int)) := by rw [← HWX.out]; exact HX7.out.t1 (by rw [← HMM.out]; omega)
        have y0 : v7.cell? ⟨hb, 0, none⟩ = some (.int .i64 (x : Int)) := blk_cell HHB7.out 0
        have y1 : v7.cell? ⟨hb, 1, none⟩ = some (.int .u64 (kx : Int)) := blk_cell HHB7.out 1
        have HBL : Hid (b < v7.heap.size) := Lib.hid (lt_heap HBX7.out)
        have HPL : Hid (p < v7.heap.size) := Lib.hid (lt_heap HX7.out.blk)
        have HGL : Hid (g < v7.heap.size) := Lib.hid (HX7.out.old g HX7.out.mg)
        have HHL : Hid (hb < v7.heap.size) := Lib.hid (lt_heap HHB7.out)
        have hbd : ∀ W, (Instr.build 108 #[(0, .agg #[.int .i64 (x : Int), .int .u64 (kx : Int)]), (1, .int .u64 (wx : Int))]).run Tryz.prog W = .ok (.agg #[.int .i64 (x : Int), .int .u64 (kx : Int), .int .u64 (wx : Int)]) W := fun W => by kernel_rfl
        refine wp_region_grow (C := fun W => Below v7.heap.size v7 W) 12 52 [val (.slice E j dE), val (.agg #[.int .i64 (x : Int), .int .u64 (kx : Int)]), val (.pointer (some ⟨p, 0, none⟩)), val (.pointer (some ⟨p, 0, none⟩)), val (.pointer (some ⟨p, 2, none⟩)), val (.slice (some ⟨g, 0, none⟩) m c), val (.int .i64 (x : Int)), val (.pointer (some ⟨g, x * 3, none⟩)), val (.pointer (some ⟨g, x * 3 + 1, none⟩)), val (.int .u64 (wx : Int)), val (.agg #[.int .i64 (x : Int), .int .u64 (kx : Int), .int .u64 (wx : Int)]), fun v W => ∃ zb, v = .slice (some ⟨zb, 0, none⟩) 1 1 ∧ W.heap[zb]? = some (.cells #[.int .i64 (x : Int), .int .u64 (kx : Int), .int .u64 (wx : Int)] 108 (0, 0)) ∧ v7.heap.size ≤ zb] (by kernel_rfl) rfl (by kernel_rfl) rfl ⟨stb_val _, stb_val _, stb_val _, stb_val _, stb_val _, stb_val _, stb_val _, stb_val _, stb_val _, stb_val _, stb_val _, (fun v W W' h hb => by obtain ⟨zb, h1, h2, h3⟩ := h; exact ⟨zb, h1, (hb.block _ (lt_heap h2)).trans h2, h3⟩), trivial⟩ (Below.refl _ _).drew ?_ ?_
        · refine each_cons ?_ ?_
          · intro a W hW hd
            have h4 : a.tmps[4]?.getD undef = .slice E j dE := slot_eq (hd 4 (by decide))
            exact grows_value _ hW (by simp [execOp, Act.eval, h4]) rfl
          refine each_cons ?_ ?_
          · intro a W hW hd
            have h7 : a.tmps[7]?.getD undef = .pointer (some ⟨hb, 0, none⟩) := slot_eq (hd 7 (by decide))
            have xx0 : W.cell? ⟨hb, 0, none⟩ = some (.int .i64 (x : Int)) := (hW.cell (p := ⟨hb, 0, none⟩) HHL.out).trans y0
            have xx1 : W.cell? ⟨hb, 1, none⟩ = some (.int .u64 (kx : Int)) := (hW.cell (p := ⟨hb, 1, none⟩) HHL.out).trans y1
            refine grows_value _ hW (?_ : _ = _) rfl
            clear hd
            go_simp
          refine each_cons ?_ ?_
          · intro a W hW hd
            have h1 : a.tmps[1]?.getD undef = .pointer (some ⟨b, 0, none⟩) := slot_eq (hd 1 (by decide))
            have xx : W.cell? ⟨b, 0, none⟩ = some (.pointer (some ⟨p, 0, none⟩)) := (hW.cell (p := ⟨b, 0, none⟩) HBL.out).trans x0
            refine grows_value _ hW (?_ : _ = _) rfl
            clear hd
            go_simp
          refine each_cons ?_ ?_
          · intro a W hW hd
            have h36 : a.tmps[36]?.getD undef = .pointer (some ⟨p, 0, none⟩) := slot_eq (hd 36 (by decide))
            refine grows_value _ hW (?_ : _ = _) rfl
            clear hd
            go_simp
          refine each_cons ?_ ?_
          · intro a W hW hd
            have h37 : a.tmps[37]?.getD undef = .pointer (some ⟨p, 0, none⟩) := slot_eq (hd 37 (by decide))
            refine grows_value _ hW (?_ : _ = _) rfl
            clear hd
            go_simp
          refine each_cons ?_ ?_
          · intro a W hW hd
            have h38 : a.tmps[38]?.getD undef = .pointer (some ⟨p, 2, none⟩) := slot_eq (hd 38 (by decide))
            have xx : W.cell? ⟨p, 2, none⟩ = some (.slice (some ⟨g, 0, none⟩) m c) := (hW.cell (p := ⟨p, 2, none⟩) HPL.out).trans x2
            refine grows_value _ hW (?_ : _ = _) rfl
            clear hd
            go_simp
          refine each_cons ?_ ?_
          · intro a W hW hd
            have h6 : a.tmps[6]?.getD undef = .int .i64 (x : Int) := slot_eq (hd 6 (by decide))
            exact grows_value _ hW (by simp [execOp, Act.eval, h6]) rfl
          refine each_cons ?_ ?_
          · intro a W hW hd
            have h39 : a.tmps[39]?.getD undef = .slice (some ⟨g, 0, none⟩) m c := slot_eq (hd 39 (by decide))
            have h40 : a.tmps[40]?.getD undef = .int .i64 (x : Int) := slot_eq (hd 40 (by decide))
            refine grows_value _ hW (?_ : _ = _) rfl
            clear hd
            go_simp
          refine each_cons ?_ ?_
          · intro a W hW hd
            have h41 : a.tmps[41]?.getD undef = .pointer (some ⟨g, x * 3, none⟩) := slot_eq (hd 41 (by decide))
            refine grows_value _ hW (?_ : _ = _) rfl
            clear hd
            go_simp
          refine each_cons ?_ ?_
          · intro a W hW hd
            have h42 : a.tmps[42]?.getD undef = .pointer (some ⟨g, x * 3 + 1, none⟩) := slot_eq (hd 42 (by decide))
            have xx : W.cell? ⟨g, x * 3 + 1, none⟩ = some (.int .u64 (wx : Int)) := (hW.cell (p := ⟨g, x * 3 + 1, none⟩) HGL.out).trans xg
            refine grows_value _ hW (?_ : _ = _) rfl
            clear hd
            go_simp
          refine each_cons ?_ ?_
          · intro a W hW hd
            have h35 : a.tmps[35]?.getD undef = .agg #[.int .i64 (x : Int), .int .u64 (kx : Int)] := slot_eq (hd 35 (by decide))
            have h43 : a.tmps[43]?.getD undef = .int .u64 (wx : Int) := slot_eq (hd 43 (by decide))
            refine grows_value _ hW (?_ : _ = _) rfl
            have hb' := hbd W
            clear hd
            simp [execOp, Act.eval, h35, h43, hb']
          refine each_cons ?_ ?_
          · intro a W hW hd
            have h44 : a.tmps[44]?.getD undef = .agg #[.int .i64 (x : Int), .int .u64 (kx : Int), .int .u64 (wx : Int)] := slot_eq (hd 44 (by decide))
            refine grows_new (w' := W.alloc (.cells #[.int .i64 (x : Int), .int .u64 (kx : Int), .int .u64 (wx : Int)] 108)) (.slice (some ⟨W.heap.size, 0, none⟩) 1 1) (?_ : _ = _) ⟨W.heap.size, rfl, heap_alloc_new W _, hW.size⟩ (below_alloc W _) (hW.alloc hW.size _)
            clear hd
            go_simp
          exact each_nil
        · refine behind_val rfl ?_
          refine behind_val rfl ?_
          refine behind_val rfl ?_
          refine behind_val rfl ?_
          refine behind_val rfl ?_
          refine behind_val rfl ?_
          refine behind_val rfl ?_
          refine behind_val rfl ?_
          refine behind_val rfl ?_
          refine behind_val rfl ?_
          refine behind_val rfl ?_
          refine behind_cons fun v45 => ?_
          refine behind_nil fun u8 hC8 hF8 => ?_
          obtain ⟨_, zb, rfl, hzb, hzl⟩ := hF8
          have HZB := Lib.hid hzb
          have HZL := Lib.hid hzl
          simp only [Act.put, List.setIfInBounds_toArray, List.set_cons_succ, List.set_cons_zero, List.drop_succ_cons, List.drop_zero]
          have HX8 := Lib.hid (HX7.out.step hC8)
          have HE8 := Lib.hid (HE7.out.step hC8)
          have HD8 := Lib.hid (HD7.out.below hC8)
          have HR8 := Lib.hid (HR7.out.below hC8)
          have HBX8 : Hid (u8.heap[b]? = some (.cells #[.pointer (some ⟨p, 0, none⟩)] 64 (0, 0))) := Lib.hid ((hC8.block _ (lt_heap HBX7.out)).trans HBX7.out)
          have HHB8 : Hid (u8.heap[hb]? = some (.cells #[.int .i64 (x : Int), .int .u64 (kx : Int)] 95 (0, 0))) := Lib.hid ((hC8.block _ (lt_heap HHB7.out)).trans HHB7.out)
          have HWS := Lib.hid HE8.out.kept.size
          clear hzb hzl hC8 x0 x2 xg y0 y1 hbd HX7 HE7 HD7 HR7 HBX7 HHB7
          go_upto_region 9 with (first
            | (at_builtin
               refine wpList_append_vals rfl (.tmp 34) (.tmp 45) 104 rfl w.heap.size 108 i0 (.agg #[.int .i64 0, .int .u64 0, .int .u64 0]) 3 Tryz.underlying104 HI0.out HZ0.out HZ1.out rfl (by decide) rfl HR8.out (m := 1) (A' := some ⟨zb, 0, none⟩) (B := u8.heap.size) (g := fun k => (fev (ot x)).getD k undef) rfl (.inr ⟨zb, 0, rfl, lt_heap HZB.out, fun k hk => ?_⟩) (fun k hk => fev_one _ k (by omega)) (by unfold maxLen; omega) (by rw [HZ2.out]; omega) HWS.out ?_
               · rw [Nat.zero_add, blk_cell HZB.out k, HOTX.out]
                 rcases (show k = 0 ∨ k = 1 ∨ k = 2 by omega) with rfl | rfl | rfl <;> rfl
               intro E2 dE2 u9 hown hg hbk
               have HR9 := Lib.hid hown
               have HX9 := Lib.hid (HX8.out.own hg HNR.out)
               have HE9 := Lib.hid (HE8.out.own hg HR8.out.at_)
               have HD9 := Lib.hid (own_grown HD8.out hg fun k e => rows_apart HD8.out HR8.out (by decide) e)
               have HBX9 : Hid (u9.heap[b]? = some (.cells #[.pointer (some ⟨p, 0, none⟩)] 64 (0, 0))) := Lib.hid ((hg.block b (lt_heap HBX8.out) (own_other HR8.out HBX8.out (by decide))).trans HBX8.out)
               have HHB9 : Hid (u9.heap[hb]? = some (.cells #[.int .i64 (x : Int), .int .u64 (kx : Int)] 95 (0, 0))) := Lib.hid ((hg.block hb (lt_heap HHB8.out) (own_other HR8.out HHB8.out (by decide))).trans HHB8.out)
               have HNR9 : Hid (∀ k, Value.ownBlock (.slice E2 (j + 1) dE2) = some k → ¬ F5 k) := Lib.hid fun k e hF => by
                 rcases hbk with e2 | e2
                 · exact HNR.out k (e2.symm.trans e) hF
                 · rw [e] at e2
                   injection e2 with e2
                   have := HX8.out.old k hF
                   omega
               clear hown hg hbk HX8 HE8 HD8 HR8 HBX8 HHB8 HNR HZB HZL))
          have y0 : u9.cell? ⟨hb, 0, none⟩ = some (.int .i64 (x : Int)) := blk_cell HHB9.out 0
          have y1 : u9.cell? ⟨hb, 1, none⟩ = some (.int .u64 (kx : Int)) := blk_cell HHB9.out 1
          have x0 : u9.cell? ⟨b, 0, none⟩ = some (.pointer (some ⟨p, 0, none⟩)) := blk_cell HBX9.out 0
          have HEND := Lib.hid (pwend HX9.out HAOK.out x kx HLV.out)
          go_wp2_with (first
            | (go_at_call 91
               refine HEND.out.mono ?_
               rintro e u10 ⟨rfl, F6, hx6, he6⟩
               have HX10 := Lib.hid hx6
               have HE10 := Lib.hid (HE9.out.trans he6)
               have HD10 := Lib.hid (own_beside HD9.out HND.out he6)
               have HR10 := Lib.hid (own_beside HR9.out HNR9.out he6)
               have HBX10 : Hid (u10.heap[b]? = some (.cells #[.pointer (some ⟨p, 0, none⟩)] 64 (0, 0))) := Lib.hid ((he6.kept.block b (lt_heap HBX9.out) HNB.out).trans HBX9.out)
               have HNB10 : Hid (¬ F6 b) := Lib.hid fun hF => (he6.sub b hF).elim HNB.out fun h => by have := lt_heap HBX9.out; omega
               clear hx6 he6 HX9 HE9 HD9 HR9 HBX9 HHB9 HNB HND HNR9 x0 y0 y1 HEND))
          go_roundw
          case rel =>
            refine ⟨j + 1, E2, dE2, F6, updN ta5 x 0, updN tw5 x 0, updN tt5 x 0, by go_num, rfl, by omega, ?_, ?_, HE10.out, HD10.out.1, HD10.out.2, HR10.out.2, HBX10.out, HNB10.out, ?_⟩
            · refine HR10.out.1.same fun k hk => ?_
              rw [HTK.out, List.map_append]
              have := rwc_snoc (sz := 3) (by decide) fev ((D.take j).map ot) (ot x) k (by rw [List.length_map, List.length_take, Nat.min_eq_left (by omega)]; exact hk)
              rw [List.length_map, List.length_take, Nat.min_eq_left (by omega)] at this
              exact this
            · rw [HTK.out, HGN.out]
              exact HX10.out
            · exact HST.out
          case measure => simp [intOf]; omega
      · obtain rfl : n = j := by omega
        have e1 : D.take n = D := by rw [← HDL.out]; exact List.take_length
        have e2 := HSJ.out
        have e3 := HX.out
        have e4 := HR.out
        rw [e1] at e3 e4
        clear HX HR HSJ
        have HSF := Lib.hid (FST.last HDL.out e2)
        have HX := Lib.hid e3
        have HR := Lib.hid e4
        clear e1 e2 e3 e4
        go_wp2_with fail
        go_ret
        refine ⟨D, HPM.out, HPW.out, E, dE, F5, S2, ta5, tw5, tt5, by rw [HDL.out]; rfl, ?_, HX.out, HE.out, ?_, HSF.out.1, HSF.out.2⟩
        · rw [HDL.out, ← hotf]
          exact HR.out
        · rw [HDL.out]
          exact HNR.out
end Go.Proofs.YtimcdnbfdkpffaaGreat
