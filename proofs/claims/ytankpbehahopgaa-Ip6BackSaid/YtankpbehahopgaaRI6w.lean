/- The document's answers for layer 4: Write. -/
import Derived.Test.YtankpbehahopgaaRI6r
import Derived.Deep.CutRange
namespace Go.Proofs.Ytankpbehahopgaa
open Go.RowKit
/-- What Write tells. -/
def Write6 (base et : Nat) (g : Nat → Int) (m : Nat) (x : Int) (w : World) (e : Ending) (w' : World) : Prop :=
  ∃ U cu, e = .returned (.tuple #[.slice U m cu, .int .i64 x]) ∧ Own w' base et U m cu g ∧ Below base w w'
def ok6 (lab next proto : Int) (on : Nat) (fo : Nat → Int) : Bool := decide (lab ≤ 1048575) && decide (chn fo on 8 next 0 = (proto, on, 0))
def Wr6 (base et : Nat) (ok : Bool) (m : Nat) (g : Nat → Int) (w : World) (e : Ending) (w' : World) : Prop :=
  (ok = false ∧ Write6 base et (fun _ => 0) 0 2 w e w') ∨ (ok = true ∧ 1660 < m ∧ Write6 base et (fun _ => 0) 0 3 w e w') ∨ (ok = true ∧ m ≤ 1660 ∧ Write6 base et g m 0 w e w')
theorem own_new {w : World} {base : Nat} {e : TypeId} {cs : Array Value} (n : Nat) (f : Nat → Int) (hb : base ≤ w.heap.size) (hn : n ≤ 140737488355328) (hl : cs.toList = (nums n f).map (Value.int .u8)) (g : Nat) (hg : g = w.heap.size) : Own (w.alloc (.cells cs e)) base e (some ⟨g, 0, none⟩) n n f := by
  subst hg
  have hs : cs.size = n := by
    have q := congrArg List.length hl
    simpa [nums_len] using q
  exact ⟨by simp [nums_len], .inr ⟨w.heap.size, n, _, rfl, hb, heap_alloc_new w _, Nat.le_refl _, by unfold maxLen; omega, by simp [hs], by rw [hl, List.take_of_length_le (by simp [nums_len])]⟩⟩
theorem hdr6_8 (cls lab next hops : Int) (s d : Nat → Int) (L : Nat) : nums 8 (hdr6 cls lab next hops s d L) = [96 + cls / 16, cls % 16 * 16 + lab / 65536, lab / 256 % 256, lab % 256, (L : Int) / 256, (L : Int) % 256, next, hops] := by
  simp [nums, List.range_succ, hdr6]
theorem hdr6_s (cls lab next hops : Int) (s d : Nat → Int) (L k : Nat) (hk : k < 16) (j : Nat) (hj : j < 8 + k + 1) : hdr6 cls lab next hops s d L j = cat (8 + k) (hdr6 cls lab next hops s d L) (fun _ => s k) j := by
  unfold cat
  by_cases h : j < 8 + k
  · rw [if_pos h]
  · obtain rfl : j = 8 + k := by omega
    rw [if_neg h]
    unfold hdr6
    rw [if_neg (by omega), if_neg (by omega), if_neg (by omega), if_neg (by omega), if_neg (by omega), if_neg (by omega), if_neg (by omega), if_neg (by omega), if_pos (by omega)]
    congr 1
    omega
theorem hdr6_d (cls lab next hops : Int) (s d : Nat → Int) (L k : Nat) (hk : k < 16) (j : Nat) (hj : j < 24 + k + 1) : hdr6 cls lab next hops s d L j = cat (24 + k) (hdr6 cls lab next hops s d L) (fun _ => d k) j := by
  unfold cat
  by_cases h : j < 24 + k
  · rw [if_pos h]
  · obtain rfl : j = 24 + k := by omega
    rw [if_neg h]
    unfold hdr6
    rw [if_neg (by omega), if_neg (by omega), if_neg (by omega), if_neg (by omega), if_neg (by omega), if_neg (by omega), if_neg (by omega), if_neg (by omega), if_neg (by omega), if_pos (by omega)]
    congr 1
    omega
set_option maxRecDepth 100000 in
set_option maxHeartbeats 4000000 in
theorem rwrite6_any (cls lab next proto hops : Int) (s d : Nat → Int) (O : Option Addr) (on co : Nat) (fo : Nat → Int) (A : Option Addr) (n c : Nat) (f : Nat → Int)
    (h1 : 0 ≤ cls ∧ cls ≤ 255) (h2 : 0 ≤ lab ∧ lab ≤ 4294967295) (h3 : 0 ≤ next ∧ next ≤ 255) (hfo : Byt fo) (hon : on ≤ 4000) (hn : n ≤ 4000) (hoc : on ≤ co) (hco : co ≤ 9223372036854775807)
    (w : World) (hro : Rd w w.heap.size O on fo) (hr : Rd w w.heap.size A n f) :
    Calls Try.prog 11 #[.agg (ip6c cls lab next proto hops s d (.slice O on co)), .slice A n c] w (Wr6 w.heap.size 5 (ok6 lab next proto on fo) (40 + (on + n)) (cat (40 + on) (cat 40 (hdr6 cls lab next hops s d (on + n)) fo) f) w) := by
  obtain ⟨i0, hi0, hz0, hz1, hz2⟩ := info_parts Try.info5
  have HI0 := Lib.hid hi0
  have HZ0 := Lib.hid hz0
  have HZ1 := Lib.hid hz1
  have HZ2 := Lib.hid hz2
  have HE1 : Hid ((w.alloc (.cells (ip6c cls lab next proto hops s d (.slice O on co)) 26)).heap[w.heap.size]? = some (.cells (ip6c cls lab next proto hops s d (.slice O on co)) 26 (0, 0))) := heap_alloc_new w _
  have HB1 : Hid (Below w.heap.size w (w.alloc (.cells (ip6c cls lab next proto hops s d (.slice O on co)) 26))) := below_alloc w _
  have HRO := Lib.hid hro
  have HR := Lib.hid hr
  have HFO := Lib.hid hfo
  clear hi0 hz0 hz1 hz2 hro hr hfo
  obtain ⟨X, hX⟩ : ∃ X, X = chn fo on 8 next 0 := ⟨_, rfl⟩
  obtain ⟨K, hK⟩ : ∃ K, K = ok6 lab next proto on fo := ⟨_, rfl⟩
  rw [← hK]
  unfold ok6 at hK
  rw [← hX] at hK
  have HK := Lib.hid hK
  have hc2 : (w.alloc (.cells (ip6c cls lab next proto hops s d (.slice O on co)) 26)).cell? ⟨w.heap.size, 2, none⟩ = some (.int .u8 next) := blk_cell HE1.out 2
  have hc37 : (w.alloc (.cells (ip6c cls lab next proto hops s d (.slice O on co)) 26)).cell? ⟨w.heap.size, 37, none⟩ = some (.slice O on co) := blk_cell HE1.out 37
  have HCH := Lib.hid (rchain_any next h3 O on co fo HFO.out (by omega) hoc hco (w.alloc (.cells (ip6c cls lab next proto hops s d (.slice O on co)) 26)) ((HRO.out.keep HB1.out).more HB1.out.size))
  rw [← hX] at HCH
  obtain ⟨p, m, E⟩ := X
  clear hK hX
  go_enter Try.func11, Try.ntmps11
  go_upto_region 2 with (first
    | (go_at_call 13; refine HCH.out.mono ?_; rintro e w2 ⟨rfl, hb2⟩; have HE2 : Hid (w2.heap[w.heap.size]? = some (.cells (ip6c cls lab next proto hops s d (.slice O on co)) 26 (0, 0))) := (hb2.block _ (lt_heap HE1.out)).trans HE1.out; have HB2 : Hid (Below w.heap.size w w2) := HB1.out.trans (hb2.mono HB1.out.size); clear hb2))
  clear HCH HE1 HB1 hc2 hc37
  have a0 : w2.cell? ⟨w.heap.size, 0, none⟩ = some (.int .u8 cls) := blk_cell HE2.out 0
  have a1 : w2.cell? ⟨w.heap.size, 1, none⟩ = some (.int .u32 lab) := blk_cell HE2.out 1
  have a2 : w2.cell? ⟨w.heap.size, 2, none⟩ = some (.int .u8 next) := blk_cell HE2.out 2
  have a3 : w2.cell? ⟨w.heap.size, 3, none⟩ = some (.int .u8 proto) := blk_cell HE2.out 3
  have a4 : w2.cell? ⟨w.heap.size, 4, none⟩ = some (.int .u8 hops) := blk_cell HE2.out 4
  have a37 : w2.cell? ⟨w.heap.size, 37, none⟩ = some (.slice O on co) := blk_cell HE2.out 37
  by_cases cA : 1048575 < lab
  · have hKf : K = false := by rw [HK.out]; simp; omega
    skip
    go_wp2_with fail
    go_ret2
    first
      | exact .inl ⟨by first | exact hKf | rfl, none, 0, rfl, Own.nil_ _ _ _ _, HB2.out⟩
      | exact .inl ⟨none, 0, rfl, Own.nil_ _ _ _ _, HB2.out⟩
  · have cA' : lab ≤ 1048575 := by omega
    by_cases cB : E = 0
    · subst cB
      by_cases cC : p = proto
      · obtain rfl : proto = p := cC.symm
        by_cases cD : m = on
        · obtain rfl : on = m := cD.symm
          have hKt : K = true := by rw [HK.out]; simp; omega
          go_upto_if 51 with fail
          by_cases cL : 1660 < 40 + (on + n)
          · have cL' : (1660 : Int) < 40 + ((on : Int) + (n : Int)) := by omega
            go_wp2_with fail
            go_ret2
            first
              | exact .inr (.inl ⟨by first | exact hKt | rfl, by omega, none, 0, rfl, Own.nil_ _ _ _ _, HB2.out⟩)
              | exact ⟨none, 0, rfl, Own.nil_ _ _ _ _, HB2.out⟩
              | exact .inl ⟨by omega, none, 0, rfl, Own.nil_ _ _ _ _, HB2.out⟩
              | exact .inr (.inl ⟨by omega, none, 0, rfl, Own.nil_ _ _ _ _, HB2.out⟩)
          · have cL' : 40 + ((on : Int) + (n : Int)) ≤ 1660 := by omega
            have w3 : IntKind.u64.wrap cls = cls := by simp only [IntKind.wrap_u64]; omega
            have w4 : IntKind.u64.wrap (cls * 1048576) = cls * 1048576 := by simp only [IntKind.wrap_u64]; omega
            obtain ⟨G, hG⟩ : ∃ G, G = 1610612736 + cls * 1048576 := ⟨_, rfl⟩
            obtain ⟨F, hF⟩ : ∃ F, F = G + lab := ⟨_, rfl⟩
            have w5 : IntKind.u64.wrap (1610612736 + cls * 1048576) = G := by simp only [IntKind.wrap_u64]; omega
            have w6 : IntKind.u64.wrap lab = lab := by simp only [IntKind.wrap_u64]; omega
            have w7 : IntKind.u64.wrap (G + lab) = F := by simp only [IntKind.wrap_u64]; omega
            have hF0 : 0 ≤ F := by omega
            have hT0 : (0 : Int) ≤ ((on : Int) + (n : Int)) := by omega
            obtain ⟨q0, hq0⟩ : ∃ q, q = F / 16777216 := ⟨_, rfl⟩
            obtain ⟨q1, hq1⟩ : ∃ q, q = F / 65536 := ⟨_, rfl⟩
            obtain ⟨q2, hq2⟩ : ∃ q, q = F / 256 := ⟨_, rfl⟩
            have e0 : F.tdiv 16777216 = q0 := (Int.tdiv_eq_ediv_of_nonneg hF0).trans hq0.symm
            have e1 : F.tdiv 65536 = q1 := (Int.tdiv_eq_ediv_of_nonneg hF0).trans hq1.symm
            have e2 : F.tdiv 256 = q2 := (Int.tdiv_eq_ediv_of_nonneg hF0).trans hq2.symm
            have e3 : F.tmod 256 = lab % 256 := (Int.tmod_eq_emod_of_nonneg hF0).trans (by omega)
            have r0 : IntKind.u64.wrap q0 = q0 := by simp only [IntKind.wrap_u64]; omega
            have r1 : IntKind.u64.wrap q1 = q1 := by simp only [IntKind.wrap_u64]; omega
            have r2 : IntKind.u64.wrap q2 = q2 := by simp only [IntKind.wrap_u64]; omega
            have z0 : IntKind.u8.wrap q0 = 96 + cls / 16 := by simp only [IntKind.wrap_u8]; omega
            have z1 : q1.tmod 256 = cls % 16 * 16 + lab / 65536 := (Int.tmod_eq_emod_of_nonneg (by omega)).trans (by omega)
            have z2 : q2.tmod 256 = lab / 256 % 256 := (Int.tmod_eq_emod_of_nonneg (by omega)).trans (by omega)
            have s1 : IntKind.u64.wrap (cls % 16 * 16 + lab / 65536) = cls % 16 * 16 + lab / 65536 := by simp only [IntKind.wrap_u64]; omega
            have s2 : IntKind.u64.wrap (lab / 256 % 256) = lab / 256 % 256 := by simp only [IntKind.wrap_u64]; omega
            have s3 : IntKind.u64.wrap (lab % 256) = lab % 256 := by simp only [IntKind.wrap_u64]; omega
            have t1 : IntKind.u8.wrap (cls % 16 * 16 + lab / 65536) = cls % 16 * 16 + lab / 65536 := by simp only [IntKind.wrap_u8]; omega
            have t2 : IntKind.u8.wrap (lab / 256 % 256) = lab / 256 % 256 := by simp only [IntKind.wrap_u8]; omega
            have t3 : IntKind.u8.wrap (lab % 256) = lab % 256 := by simp only [IntKind.wrap_u8]; omega
            have l0 : ((on : Int) + (n : Int)).tdiv 256 = ((on : Int) + (n : Int)) / 256 := Int.tdiv_eq_ediv_of_nonneg hT0
            have l1 : ((on : Int) + (n : Int)).tmod 256 = ((on : Int) + (n : Int)) % 256 := Int.tmod_eq_emod_of_nonneg hT0
            have l2 : IntKind.u8.wrap (((on : Int) + (n : Int)) / 256) = ((on : Int) + (n : Int)) / 256 := by simp only [IntKind.wrap_u8]; omega
            have l3 : IntKind.u8.wrap (((on : Int) + (n : Int)) % 256) = ((on : Int) + (n : Int)) % 256 := by simp only [IntKind.wrap_u8]; omega
            have hcells : (#[.int .u8 (96 + cls / 16), .int .u8 (cls % 16 * 16 + lab / 65536), .int .u8 (lab / 256 % 256), .int .u8 (lab % 256), .int .u8 (((on : Int) + (n : Int)) / 256), .int .u8 (((on : Int) + (n : Int)) % 256), .int .u8 next, .int .u8 hops] : Array Value).toList = (nums 8 (hdr6 cls lab next hops s d (on + n))).map (Value.int .u8) := by
              have ec : ((on + n : Nat) : Int) = (on : Int) + (n : Int) := by omega
              rw [hdr6_8, ec]
              rfl
            have HO : Hid (Own (w2.alloc (.cells #[.int .u8 (96 + cls / 16), .int .u8 (cls % 16 * 16 + lab / 65536), .int .u8 (lab / 256 % 256), .int .u8 (lab % 256), .int .u8 (((on : Int) + (n : Int)) / 256), .int .u8 (((on : Int) + (n : Int)) % 256), .int .u8 next, .int .u8 hops] 5)) (w.heap.size + 1) 5 (some ⟨w2.heap.size, 0, none⟩) 8 8 (hdr6 cls lab next hops s d (on + n))) := own_new 8 _ (lt_heap HE2.out) (by omega) hcells _ rfl
            have HB : Hid (Below w.heap.size w (w2.alloc (.cells #[.int .u8 (96 + cls / 16), .int .u8 (cls % 16 * 16 + lab / 65536), .int .u8 (lab / 256 % 256), .int .u8 (lab % 256), .int .u8 (((on : Int) + (n : Int)) / 256), .int .u8 (((on : Int) + (n : Int)) % 256), .int .u8 next, .int .u8 hops] 5))) := HB2.out.alloc HB2.out.size _
            have HE : Hid ((w2.alloc (.cells #[.int .u8 (96 + cls / 16), .int .u8 (cls % 16 * 16 + lab / 65536), .int .u8 (lab / 256 % 256), .int .u8 (lab % 256), .int .u8 (((on : Int) + (n : Int)) / 256), .int .u8 (((on : Int) + (n : Int)) % 256), .int .u8 next, .int .u8 hops] 5)).heap[w.heap.size]? = some (.cells (ip6c cls lab next proto hops s d (.slice O on co)) 26 (0, 0))) := blk_old HE2.out _
            clear hcells hG hF hq0 hq1 hq2
            go_upto_region 9 with fail
            clear w3 w4 w5 w6 w7 e0 e1 e2 e3 r0 r1 r2 z0 z1 z2 s1 s2 s3 t1 t2 t3 l0 l1 l2 l3 a0 a1 a2 a3 a4 a37 HE2 HB2
            generalize w2.alloc (.cells #[.int .u8 (96 + cls / 16), .int .u8 (cls % 16 * 16 + lab / 65536), .int .u8 (lab / 256 % 256), .int .u8 (lab % 256), .int .u8 (((on : Int) + (n : Int)) / 256), .int .u8 (((on : Int) + (n : Int)) % 256), .int .u8 next, .int .u8 hops] 5) = w9 at *
            go_wp2
            go_loopw [11, 12] (fun x y wr => ∃ (k : Nat) (Ak : Option Addr) (ck : Nat), k ≤ 16 ∧ x = .slice Ak (8 + k) ck ∧ y = .int .i64 (k : Int) ∧ Hid (Own wr (w.heap.size + 1) 5 Ak (8 + k) ck (hdr6 cls lab next hops s d (on + n))) ∧ Hid (wr.heap[w.heap.size]? = some (.cells (ip6c cls lab next proto hops s d (.slice O on co)) 26 (0, 0))) ∧ Hid (Below w.heap.size w wr)) (fun _ y _ => 16 - (intOf y).toNat)
            case atStart => exact ⟨0, _, _, by omega, rfl, rfl, HO, HE, HB⟩
            case round =>
              clear HO HE HB
              obtain ⟨k, Ak, ck, hk, rfl, rfl, HO, HE, HB⟩ := hrel
              by_cases hlt : k < 16
              · have hx : wr.cell? ⟨w.heap.size, 5 + k, none⟩ = some (.int .u8 (s k)) := (blk_cell HE.out (5 + k)).trans (ip6_src k hlt)
                have i0' : (k : Int) < 16 := by omega
                have i1 : (0 : Int) ≤ (k : Int) := by omega
                have i3 : ((k : Int)).toNat = k := by omega
                have i7 : IntKind.i64.wrap ((k : Int) + 1) = (k : Int) + 1 := by rw [IntKind.wrap_i64]; omega
                have hsz : w.heap.size + 1 ≤ wr.heap.size := lt_heap HE.out
                go_wp2_with (first
                  | (at_builtin
                     refine wpList_append_rd rfl (.tmp 90) (.tmp 95) _ rfl (w.heap.size + 1) 5 i0 Try.underlying24 HI0.out HZ0.out HZ1.out HZ2.out rfl (HO.out.alloc (.cells #[.int .u8 (s k)] 5)) rfl (rd_new1 wr (wr.heap.size + 1) _ rfl (Nat.lt_succ_self _) (s k) 5) (by omega) (Nat.le_trans hsz (alloc_le wr _)) ?_
                     intro A3 c3 w3 hown3 hg3 _
                     have HB3 : Hid (Below w.heap.size w w3) := (HB.out.alloc HB.out.size (.cells #[.int .u8 (s k)] 5)).grown hg3 (HB.out.alloc HB.out.size (.cells #[.int .u8 (s k)] 5)).size (fun j hj => Nat.le_of_succ_le ((HO.out.alloc (.cells #[.int .u8 (s k)] 5)).at_ j hj))
                     have HO3 : Hid (Own w3 (w.heap.size + 1) 5 A3 (8 + (k + 1)) c3 (hdr6 cls lab next hops s d (on + n))) := hown3.same fun j hj => hdr6_s cls lab next hops s d (on + n) k hlt j hj
                     have HE3 : Hid (w3.heap[w.heap.size]? = some (.cells (ip6c cls lab next proto hops s d (.slice O on co)) 26 (0, 0))) := Lib.hid ((hg3.block w.heap.size (Nat.lt_of_lt_of_le (lt_heap HE.out) (alloc_le wr _)) (fun e => absurd ((HO.out.alloc (.cells #[.int .u8 (s k)] 5)).at_ _ e.symm) (Nat.not_succ_le_self _))).trans (blk_old HE.out _))
                     clear hown3 hg3))
                go_roundw
                case rel => exact ⟨k + 1, A3, c3, by omega, by go_num, by simp, HO3, HE3, HB3⟩
                case measure => simp [intOf]; omega
              · obtain rfl : k = 16 := by omega
                clear hlt hk
                rw [show ((16 : Nat) : Int) = 16 from rfl]
                go_wp2
                go_loopw [11, 13] (fun x y wr => ∃ (k : Nat) (Ak : Option Addr) (ck : Nat), k ≤ 16 ∧ x = .slice Ak (24 + k) ck ∧ y = .int .i64 (k : Int) ∧ Hid (Own wr (w.heap.size + 1) 5 Ak (24 + k) ck (hdr6 cls lab next hops s d (on + n))) ∧ Hid (wr.heap[w.heap.size]? = some (.cells (ip6c cls lab next proto hops s d (.slice O on co)) 26 (0, 0))) ∧ Hid (Below w.heap.size w wr)) (fun _ y _ => 16 - (intOf y).toNat)
                case atStart => exact ⟨0, _, _, by omega, rfl, rfl, HO, HE, HB⟩
                case round =>
                  clear HO HE HB
                  obtain ⟨k, Ak, ck, hk, rfl, rfl, HO, HE, HB⟩ := hrel
                  by_cases hlt : k < 16
                  · have hx : wr.cell? ⟨w.heap.size, 21 + k, none⟩ = some (.int .u8 (d k)) := (blk_cell HE.out (21 + k)).trans (ip6_dst k hlt)
                    have i0' : (k : Int) < 16 := by omega
                    have i1 : (0 : Int) ≤ (k : Int) := by omega
                    have i3 : ((k : Int)).toNat = k := by omega
                    have i7 : IntKind.i64.wrap ((k : Int) + 1) = (k : Int) + 1 := by rw [IntKind.wrap_i64]; omega
                    have hsz : w.heap.size + 1 ≤ wr.heap.size := lt_heap HE.out
                    go_wp2_with (first
                      | (at_builtin
                         refine wpList_append_rd rfl (.tmp 101) (.tmp 106) _ rfl (w.heap.size + 1) 5 i0 Try.underlying24 HI0.out HZ0.out HZ1.out HZ2.out rfl (HO.out.alloc (.cells #[.int .u8 (d k)] 5)) rfl (rd_new1 wr (wr.heap.size + 1) _ rfl (Nat.lt_succ_self _) (d k) 5) (by omega) (Nat.le_trans hsz (alloc_le wr _)) ?_
                         intro A3 c3 w3 hown3 hg3 _
                         have HB3 : Hid (Below w.heap.size w w3) := (HB.out.alloc HB.out.size (.cells #[.int .u8 (d k)] 5)).grown hg3 (HB.out.alloc HB.out.size (.cells #[.int .u8 (d k)] 5)).size (fun j hj => Nat.le_of_succ_le ((HO.out.alloc (.cells #[.int .u8 (d k)] 5)).at_ j hj))
                         have HO3 : Hid (Own w3 (w.heap.size + 1) 5 A3 (24 + (k + 1)) c3 (hdr6 cls lab next hops s d (on + n))) := hown3.same fun j hj => hdr6_d cls lab next hops s d (on + n) k hlt j hj
                         have HE3 : Hid (w3.heap[w.heap.size]? = some (.cells (ip6c cls lab next proto hops s d (.slice O on co)) 26 (0, 0))) := Lib.hid ((hg3.block w.heap.size (Nat.lt_of_lt_of_le (lt_heap HE.out) (alloc_le wr _)) (fun e => absurd ((HO.out.alloc (.cells #[.int .u8 (d k)] 5)).at_ _ e.symm) (Nat.not_succ_le_self _))).trans (blk_old HE.out _))
                         clear hown3 hg3))
                    go_roundw
                    case rel => exact ⟨k + 1, A3, c3, by omega, by go_num, by simp, HO3, HE3, HB3⟩
                    case measure => simp [intOf]; omega
                  · obtain rfl : k = 16 := by omega
                    clear hlt hk
                    have hc37 : wr.cell? ⟨w.heap.size, 37, none⟩ = some (.slice O on co) := blk_cell HE.out 37
                    have hsz : w.heap.size + 1 ≤ wr.heap.size := lt_heap HE.out
                    go_wp2_with (first
                      | (at_builtin
                         refine wpList_append_rd rfl (.tmp 108) (.tmp 110) _ rfl (w.heap.size + 1) 5 i0 Try.underlying24 HI0.out HZ0.out HZ1.out HZ2.out rfl HO.out rfl (HRO.out.keep HB.out) (by omega) hsz ?_
                         intro A7 c7 w7 hown7 hg7 _
                         have HO7 := Lib.hid hown7
                         have HB7 : Hid (Below w.heap.size w w7) := HB.out.grown hg7 HB.out.size (fun k hk => Nat.le_of_succ_le (HO.out.at_ k hk))
                         have hs7 : w.heap.size + 1 ≤ w7.heap.size := Nat.le_trans hsz hg7.size
                         clear hown7 hg7)
                      | (at_builtin
                         refine wpList_append_rd rfl (.tmp 112) (.tmp 113) _ rfl (w.heap.size + 1) 5 i0 Try.underlying24 HI0.out HZ0.out HZ1.out HZ2.out rfl HO7.out rfl (HR.out.keep HB7.out) (by omega) hs7 ?_
                         intro A8 c8 w8 hown8 hg8 _
                         have HO8 := Lib.hid hown8
                         have HB8 : Hid (Below w.heap.size w w8) := HB7.out.grown hg8 HB7.out.size (fun k hk => Nat.le_of_succ_le (HO7.out.at_ k hk))
                         clear hown8 hg8))
                    go_ret2
                    have e9 : 40 + (on + n) = 40 + on + n := by omega
                    have HO9 : Hid (Own w8 w.heap.size 5 A8 (40 + (on + n)) c8 (cat (40 + on) (cat 40 (hdr6 cls lab next hops s d (on + n)) fo) f)) := by rw [e9]; exact HO8.out.le (Nat.le_succ _)
                    first
                      | exact .inr (.inr ⟨by first | exact hKt | rfl, by omega, A8, c8, by rw [e9]; rfl, HO9.out, HB8.out⟩)
                      | exact ⟨A8, c8, by rw [e9]; rfl, HO9.out, HB8.out⟩
                      | exact .inr ⟨by omega, A8, c8, by rw [e9]; rfl, HO9.out, HB8.out⟩
                      | exact .inr (.inr ⟨by omega, A8, c8, by rw [e9]; rfl, HO9.out, HB8.out⟩)
        · have hKf : K = false := by rw [HK.out]; simp [cD]
          have cD' : ((m : Int) != (on : Int)) = true := by simpa using (fun h : (m : Int) = (on : Int) => cD (by omega))
          go_wp2_with fail
          go_ret2
          first
            | exact .inl ⟨by first | exact hKf | rfl, none, 0, rfl, Own.nil_ _ _ _ _, HB2.out⟩
            | exact .inl ⟨none, 0, rfl, Own.nil_ _ _ _ _, HB2.out⟩
      · have hKf : K = false := by rw [HK.out]; simp [cC]
        have cC' : (p != proto) = true := by simpa using cC
        go_wp2_with fail
        go_ret2
        first
          | exact .inl ⟨by first | exact hKf | rfl, none, 0, rfl, Own.nil_ _ _ _ _, HB2.out⟩
          | exact .inl ⟨none, 0, rfl, Own.nil_ _ _ _ _, HB2.out⟩
    · have hKf : K = false := by rw [HK.out]; simp [cB]
      have cB' : (E != 0) = true := by simpa using cB
      go_wp2_with fail
      go_ret2
      first
        | exact .inl ⟨by first | exact hKf | rfl, none, 0, rfl, Own.nil_ _ _ _ _, HB2.out⟩
        | exact .inl ⟨none, 0, rfl, Own.nil_ _ _ _ _, HB2.out⟩
end Go.Proofs.Ytankpbehahopgaa
