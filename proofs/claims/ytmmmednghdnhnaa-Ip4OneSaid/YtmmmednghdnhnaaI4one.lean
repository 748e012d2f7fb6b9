/- Ip4One, walked. -/
import Derived.Test.YtmmmednghdnhnaaI4k
import Derived.Test.YtmmmednghdnhnaaGrow
namespace Go.Proofs.Ytmmmednghdnhnaa
open Go.RowKit
theorem xor_all : ∀ x : Fin 256, ∀ j : Fin 8, (x.val ^^^ 2 ^ j.val) < 256 ∧ ((x.val ^^^ 2 ^ j.val) = x.val + 2 ^ j.val ∨ (x.val ^^^ 2 ^ j.val) + 2 ^ j.val = x.val) := by decide +kernel
theorem xor_bit (x : Int) (hx : 0 ≤ x ∧ x ≤ 255) (j : Nat) (hj : j < 8) : ∃ v, bits .xor .u8 x ((2 : Int) ^ j) = v ∧ 0 ≤ v ∧ v ≤ 255 ∧ (v - x = 2 ^ j ∨ x - v = 2 ^ j) := by
  obtain ⟨n, rfl⟩ := Int.eq_ofNat_of_zero_le hx.1
  have hp : 2 ^ j < 256 := by
    have : j = 0 ∨ j = 1 ∨ j = 2 ∨ j = 3 ∨ j = 4 ∨ j = 5 ∨ j = 6 ∨ j = 7 := by omega
    rcases this with rfl | rfl | rfl | rfl | rfl | rfl | rfl | rfl <;> decide
  obtain ⟨h1, h2⟩ := xor_all ⟨n, by omega⟩ ⟨j, hj⟩
  have e := u8_xor_nat n (2 ^ j) (by omega) hp
  have hc : ((2 ^ j : Nat) : Int) = (2 : Int) ^ j := by simp
  rw [hc] at e
  refine ⟨_, e, by omega, by simp only at h1; omega, ?_⟩
  rw [← hc]
  simp only at h2
  omega
theorem pow_wrap (j : Nat) (hj : j < 8) : IntKind.u8.wrap ((2 : Int) ^ j) = (2 : Int) ^ j := by
  have : j = 0 ∨ j = 1 ∨ j = 2 ∨ j = 3 ∨ j = 4 ∨ j = 5 ∨ j = 6 ∨ j = 7 := by omega
  rcases this with rfl | rfl | rfl | rfl | rfl | rfl | rfl | rfl <;> decide
/-- One bit of a header turned, behind its first byte. -/
theorem rd4_turned {f : Nat → Int} (hf : Byt f) {N p : Nat} (h : rd4E f N = 0) (hp : 1 ≤ p) (hp' : p < hl4 f) {v : Int} (hv : 0 ≤ v ∧ v ≤ 255) (j : Nat) (hj : j < 8) (hd : v - f p = 2 ^ j ∨ f p - v = 2 ^ j) : rd4E (upd f p v) N = 6 := by
  obtain ⟨a1, a2, a3, a4, a5, a6, a7, a8, _⟩ := rd4_ok hf h
  have z : upd f p v 0 = f 0 := by unfold upd; rw [if_neg (by omega)]
  have hl : hl4 (upd f p v) = hl4 f := by unfold hl4; rw [z]
  refine rd4_3 (by omega) ?_ (by rw [hl]; omega) (by rw [hl]; exact ofv_bit hf p (hl4 f) hp' v hv j hj hd a8)
  rw [z, hl]
  omega
theorem at_place (x : Int) (on : Nat) (h : on ≤ 40) : ∃ m : Nat, m < 8 * (20 + on) - 8 ∧ wrap64 (8 + wrap64 ((IntKind.u64.wrap x).tmod (8 * (20 + (on : Int)) - 8))) = 8 + (m : Int) := by
  have h0 : 0 ≤ IntKind.u64.wrap x := by simp only [IntKind.wrap_u64]; omega
  rw [Int.tmod_eq_emod_of_nonneg h0]
  have q1 := Int.emod_nonneg (IntKind.u64.wrap x) (b := 8 * (20 + (on : Int)) - 8) (by omega)
  have q2 := Int.emod_lt_of_pos (IntKind.u64.wrap x) (b := 8 * (20 + (on : Int)) - 8) (by omega)
  generalize IntKind.u64.wrap x % (8 * (20 + (on : Int)) - 8) = r at *
  refine ⟨r.toNat, by omega, ?_⟩
  unfold wrap64
  omega
set_option maxRecDepth 100000 in
set_option maxHeartbeats 4000000 in
theorem one_any (tos id : Int) (df : Bool) (ttl proto : Int) (s d : Nat → Int) (O : Option Addr) (on co : Nat) (fo : Nat → Int) (A : Option Addr) (n c : Nat) (f : Nat → Int) (at_ : Int)
    (h1 : 0 ≤ tos ∧ tos ≤ 255) (h2 : 0 ≤ id ∧ id ≤ 65535) (h3 : 0 ≤ ttl ∧ ttl ≤ 255) (h4 : 0 ≤ proto ∧ proto ≤ 255) (hs : Byt s) (hd : Byt d) (hfo : Byt fo) (hf : Byt f) (hoc : on ≤ co) (hco : co ≤ 9223372036854775807) (hcap : n ≤ c) (hc' : c ≤ 9223372036854775807)
    (ha : -9223372036854775808 ≤ at_) (ha' : at_ ≤ 9223372036854775807) (w : World) (hro : Rd w w.heap.size O on fo) (hr : Rd w w.heap.size A n f) :
    Calls Try.prog 5 #[.agg (ip4c tos id df ttl proto s d (.slice O on co)), .slice A n c, .int .i64 at_] w fun e w' => e = .returned (.bool true) ∧ Below w.heap.size w w' := by
  have HE1 : Hid ((w.alloc (.cells (ip4c tos id df ttl proto s d (.slice O on co)) 26)).heap[w.heap.size]? = some (.cells (ip4c tos id df ttl proto s d (.slice O on co)) 26 (0, 0))) := heap_alloc_new w _
  have HB1 : Hid (Below w.heap.size w (w.alloc (.cells (ip4c tos id df ttl proto s d (.slice O on co)) 26))) := below_alloc w _
  have HBY : Hid (optE fo on = 0 → 20 + on + n ≤ 1660 → Byt (cat (20 + on) (hdr4 tos id df ttl proto s d on fo (20 + on + n)) f) ∧ Byt (hdr0 tos id df ttl proto s d on fo (20 + on + n))) := fun hE ht => by
    obtain ⟨ho, _⟩ := optE_ok hE
    have hb := hdr0_byt (df := df) h1 h2 h3 h4 hs hd hfo ho (show 20 + on + n ≤ 65535 by omega)
    have q := ofv_bd hb (20 + on)
    exact ⟨cat_byt _ (upd_byt (upd_byt hb 10 (by omega)) 11 (by omega)) hf, hb⟩
  have HRD : Hid (optE fo on = 0 → 20 + on + n ≤ 1660 → rd4E (cat (20 + on) (hdr4 tos id df ttl proto s d on fo (20 + on + n)) f) (20 + on + n) = 0 ∧ hl4 (cat (20 + on) (hdr4 tos id df ttl proto s d on fo (20 + on + n)) f) = 20 + on) := fun hE ht => by
    have q := hdr4_read (df := df) h1 h2 h3 h4 hs hd hfo hE (show 20 + on + n ≤ 65535 by omega) (by omega) (HBY.out hE ht).1 (20 + on + n) (Nat.le_refl _) (fun k hk => by unfold cat; rw [if_pos hk])
    exact ⟨q.1, q.2.1⟩
  have HW := Lib.hid (write4_any tos id df ttl proto s d O on co fo A n c f h1 h2 h3 h4 hs hd hfo hf (by omega) hoc hco (by omega) (w.alloc (.cells (ip4c tos id df ttl proto s d (.slice O on co)) 26)) ((hro.keep HB1.out).more HB1.out.size) ((hr.keep HB1.out).more HB1.out.size))
  clear hs hd hfo hf hro hr h1 h2 h3 h4
  go_enter Try.func5, Try.ntmps5
  go_wp2_with (first
    | (refine wpList_load_row rfl 26 (.tmp 3) rfl w.heap.size rfl 26 (ip4c tos id df ttl proto s d (.slice O on co)) (0, 0) _ HE1.out Try.underlying26 rfl (by kernel_rfl) ?_))
  go_at_call 10
  refine HW.out.mono ?_
  rintro e w2 hq
  have KN := Lib.hid known_any
  rcases hq with ⟨h, U, cu, rfl, hu, hb2⟩ | ⟨_, _, U, cu, rfl, hu, hb2⟩ | ⟨_, _, _, U, cu, rfl, hu, hb2⟩ | ⟨hE, _, hlen, U, cu, rfl, hu, hb2⟩
  · obtain ⟨E, hE⟩ : ∃ E, E = optE fo on := ⟨_, rfl⟩
    rw [← hE] at h ⊢
    have hE' : (E != 0) = true := by simpa using h
    have HB2 : Hid (Below w.heap.size w w2) := HB1.out.trans (hb2.mono HB1.out.size)
    clear hE h hu hb2 HW HBY HRD HE1 HB1
    go_wp2_with (first
      | (go_at_call 6; refine (KN.out _).mono ?_; rintro e w3 ⟨rfl, hb3⟩))
    go_ret
    exact ⟨rfl, HB2.out.trans (hb3.mono HB2.out.size)⟩
  · have HB2 : Hid (Below w.heap.size w w2) := HB1.out.trans (hb2.mono HB1.out.size)
    clear hu hb2 HW HBY HRD HE1 HB1
    go_wp2_with (first
      | (go_at_call 6; refine (KN.out _).mono ?_; rintro e w3 ⟨rfl, hb3⟩))
    go_ret
    exact ⟨rfl, HB2.out.trans (hb3.mono HB2.out.size)⟩
  · have HB2 : Hid (Below w.heap.size w w2) := HB1.out.trans (hb2.mono HB1.out.size)
    clear hu hb2 HW HBY HRD HE1 HB1
    go_wp2_with (first
      | (go_at_call 6; refine (KN.out _).mono ?_; rintro e w3 ⟨rfl, hb3⟩))
    go_ret
    exact ⟨rfl, HB2.out.trans (hb3.mono HB2.out.size)⟩
  · by_cases hl : 1500 < n
    · have hl' : (1500 : Int) < (n : Int) := by omega
      have HB2 : Hid (Below w.heap.size w w2) := HB1.out.trans (hb2.mono HB1.out.size)
      clear hu hb2 HW HBY HRD HE1 HB1
      go_wp2_with (first
        | (go_at_call 6; refine (KN.out _).mono ?_; rintro e w3 ⟨rfl, hb3⟩))
      go_ret
      exact ⟨rfl, HB2.out.trans (hb3.mono HB2.out.size)⟩
    · have hl' : ¬ (1500 : Int) < (n : Int) := by omega
      have HB2 : Hid (Below w.heap.size w w2) := HB1.out.trans (hb2.mono HB1.out.size)
      have HU : Hid (Own w2 w.heap.size 5 U (20 + on + n) cu (cat (20 + on) (hdr4 tos id df ttl proto s d on fo (20 + on + n)) f)) := hu.le (by simp)
      obtain ⟨hby, hby0⟩ := HBY.out hE (by omega)
      obtain ⟨hrd, hhl⟩ := HRD.out hE (by omega)
      obtain ⟨ho40, _⟩ := optE_ok hE
      obtain ⟨F, hF⟩ : ∃ F, F = cat (20 + on) (hdr4 tos id df ttl proto s d on fo (20 + on + n)) f := ⟨_, rfl⟩
      rw [← hF] at HU hby hrd hhl
      have HBF := Lib.hid hby
      have HRF := Lib.hid hrd
      have HHL := Lib.hid hhl
      clear hu hb2 HW HBY HRD HE1 HB1 hE hby hby0 hrd hhl hF
      obtain ⟨g, hg, _, hlt, hcell, hfree⟩ := HU.out.lies (by omega)
      subst hg
      obtain ⟨B, hB⟩ : ∃ B : Int, B = 20 + (on : Int) := ⟨_, rfl⟩
      have e1 : (((20 + on + n : Nat)) : Int) - (n : Int) = B := by omega
      have e2 : ¬ (((20 + on + n : Nat)) : Int) < 20 := by omega
      have e3 : ¬ B < 20 := by omega
      obtain ⟨m, hm, em⟩ := at_place at_ on ho40
      go_upto_region 8 with fail
      rw [em]
      obtain ⟨p, hp⟩ : ∃ p : Nat, p = (8 + m) / 8 := ⟨_, rfl⟩
      obtain ⟨j, hj⟩ : ∃ j : Nat, j = (8 + m) % 8 := ⟨_, rfl⟩
      have e4 : (8 + (m : Int)).tdiv 8 = (p : Int) := by rw [Int.tdiv_eq_ediv_of_nonneg (by omega)]; omega
      have e5 : (8 + (m : Int)).tmod 8 = (j : Int) := by rw [Int.tmod_eq_emod_of_nonneg (by omega)]; omega
      have p1 : 1 ≤ p := by omega
      have p2 : p < 20 + on := by omega
      have j1 : j < 8 := by omega
      have i1 : (0 : Int) ≤ (p : Int) := by omega
      have i2 : (p : Int) < 20 + (on : Int) + (n : Int) := by omega
      have i3 : ((p : Int)).toNat = p := by omega
      have i4 : (0 : Int) ≤ (j : Int) := by omega
      have hx := hcell p (by omega)
      have hfx := hfree p
      obtain ⟨v, hv, v0, v1, vd⟩ := xor_bit (F p) (HBF.out p) j j1
      have e6 : IntKind.i64.wrap (p : Int) = (p : Int) := by rw [IntKind.wrap_i64]; omega
      have e7 := pow_wrap j j1
      clear em hp hj hcell hfree hm
      refine wp_region_grow (C := fun W => Below w2.heap.size w2 W) 10 69 [val (.slice (some ⟨g, 0, none⟩) (20 + on + n) cu), val (.int .i64 (8 + (m : Int))), val (.int .i64 (p : Int)), val (.pointer (some ⟨g, p, none⟩)), val (.int .u8 (F p)), val (.int .i64 (8 + (m : Int))), val (.int .i64 (j : Int)), val (.int .u8 ((2 : Int) ^ j)), val (.int .u8 v), val (.pointer (some ⟨g, p, none⟩))] (by kernel_rfl) rfl (by kernel_rfl) rfl ⟨stb_val _, stb_val _, stb_val _, stb_val _, stb_val _, stb_val _, stb_val _, stb_val _, stb_val _, stb_val _, trivial⟩ (Below.refl _ _).drew ?_ ?_
      · refine each_cons ?_ ?_
        · intro a W hW hd
          have h7 : a.tmps[7]?.getD undef = .slice (some ⟨g, 0, none⟩) (20 + on + n) cu := slot_eq (hd 7 (by decide))
          exact grows_value _ hW (by simp [execOp, Act.eval, h7]) rfl
        refine each_cons ?_ ?_
        · intro a W hW hd
          have h2 : a.tmps[2]?.getD undef = .int .i64 (8 + (m : Int)) := slot_eq (hd 2 (by decide))
          exact grows_value _ hW (by simp [execOp, Act.eval, h2]) rfl
        refine each_cons ?_ ?_
        · intro a W hW hd
          have h49 : a.tmps[49]?.getD undef = .int .i64 (8 + (m : Int)) := slot_eq (hd 49 (by decide))
          refine grows_value _ hW (?_ : _ = _) rfl
          clear hd
          go_simp
        refine each_cons ?_ ?_
        · intro a W hW hd
          have h48 : a.tmps[48]?.getD undef = .slice (some ⟨g, 0, none⟩) (20 + on + n) cu := slot_eq (hd 48 (by decide))
          have h50 : a.tmps[50]?.getD undef = .int .i64 (p : Int) := slot_eq (hd 50 (by decide))
          refine grows_value _ hW (?_ : _ = _) rfl
          clear hd
          go_simp
        refine each_cons ?_ ?_
        · intro a W hW hd
          have h51 : a.tmps[51]?.getD undef = .pointer (some ⟨g, p, none⟩) := slot_eq (hd 51 (by decide))
          have hx' := (hW.cell (p := ⟨g, p, none⟩) hlt).trans hx
          refine grows_value _ hW (?_ : _ = _) rfl
          clear hd
          go_simp
        refine each_cons ?_ ?_
        · intro a W hW hd
          have h2 : a.tmps[2]?.getD undef = .int .i64 (8 + (m : Int)) := slot_eq (hd 2 (by decide))
          exact grows_value _ hW (by simp [execOp, Act.eval, h2]) rfl
        refine each_cons ?_ ?_
        · intro a W hW hd
          have h53 : a.tmps[53]?.getD undef = .int .i64 (8 + (m : Int)) := slot_eq (hd 53 (by decide))
          refine grows_value _ hW (?_ : _ = _) rfl
          clear hd
          go_simp
        refine each_cons ?_ ?_
        · intro a W hW hd
          have h54 : a.tmps[54]?.getD undef = .int .i64 (j : Int) := slot_eq (hd 54 (by decide))
          refine grows_value _ hW (?_ : _ = _) rfl
          clear hd
          go_simp
        refine each_cons ?_ ?_
        · intro a W hW hd
          have h52 : a.tmps[52]?.getD undef = .int .u8 (F p) := slot_eq (hd 52 (by decide))
          have h55 : a.tmps[55]?.getD undef = .int .u8 ((2 : Int) ^ j) := slot_eq (hd 55 (by decide))
          refine grows_value _ hW (?_ : _ = _) rfl
          clear hd
          go_simp
        refine each_cons ?_ ?_
        · intro a W hW hd
          have h48 : a.tmps[48]?.getD undef = .slice (some ⟨g, 0, none⟩) (20 + on + n) cu := slot_eq (hd 48 (by decide))
          have h50 : a.tmps[50]?.getD undef = .int .i64 (p : Int) := slot_eq (hd 50 (by decide))
          refine grows_value _ hW (?_ : _ = _) rfl
          clear hd
          go_simp
        exact each_nil
      · refine behind_val rfl ?_
        refine behind_val rfl ?_
        refine behind_val rfl ?_
        refine behind_val rfl ?_
        refine behind_val rfl ?_
        refine behind_val rfl ?_
        refine behind_val rfl ?_
        refine behind_val rfl ?_
        refine behind_val rfl ?_
        refine behind_val rfl ?_
        refine behind_nil fun w3 hCw3 hFw3 => ?_
        simp only [Act.put, List.setIfInBounds_toArray, List.set_cons_succ, List.set_cons_zero, List.drop_succ_cons, List.drop_zero]
        have hx3 := (hCw3.cell (p := ⟨g, p, none⟩) hlt).trans hx
        have hfx3 := (hCw3.frozen (p := ⟨g, p, none⟩) hlt).trans hfx
        have HU3 := Lib.hid (HU.out.below hCw3)
        have HU4 : Hid (Own (w3.setCell ⟨g, p, none⟩ (.int .u8 v)) w.heap.size 5 (some ⟨g, 0, none⟩) (20 + on + n) cu (upd F p v)) := HU3.out.set_ p v
        have HB3 : Hid (Below w.heap.size w w3) := HB2.out.trans (hCw3.mono HB2.out.size)
        have hgb : w.heap.size ≤ g := HU.out.at_ g rfl
        have HB4 : Hid (Below w.heap.size w (w3.setCell ⟨g, p, none⟩ (.int .u8 v))) := HB3.out.setCell hgb _
        have HRT := Lib.hid (rd4_turned HBF.out HRF.out p1 (by rw [HHL.out]; exact p2) ⟨v0, v1⟩ j j1 vd)
        have HRDR := Lib.hid (read4_any (some ⟨g, 0, none⟩) (20 + on + n) cu (upd F p v) (upd_byt HBF.out p ⟨v0, v1⟩) (by omega) HU4.out.cap HU4.out.cap_le (w3.setCell ⟨g, p, none⟩ (.int .u8 v)) HU4.out.rd)
        rw [HRT.out] at HRDR
        clear hCw3 hFw3 HU3 HRT hv v0 v1 vd e4 e5 e6 e7 i1 i2 i3 i4
        go_wp2_with fail
        generalize w3.setCell ⟨g, p, none⟩ (.int .u8 v) = w4 at *
        go_at_call 7
        refine HRDR.out.mono ?_
        rintro e w5 hq
        rcases hq with ⟨_, rfl, hb5⟩ | ⟨h, _⟩
        · have HB5 : Hid (Below w.heap.size w w5) := HB4.out.trans (hb5.mono HB4.out.size)
          have HN : Hid ((w5.alloc (.cells ip4z 26)).heap[w5.heap.size]? = some (.cells ip4z 26 (0, 0))) := heap_alloc_new w5 _
          have HB6 : Hid (Below w.heap.size w ((w5.alloc (.cells ip4z 26)).setRow w5.heap.size ip4z)) := below_setRow (HB5.out.alloc HB5.out.size _) HB5.out.size ip4z
          clear hb5 HRDR HU4 HB3 HB4 HU hx hfx hx3 hfx3
          go_upto_region 10 with (first
            | (refine wpList_store_row rfl 26 (.tmp 10) (.tmp 61) rfl w5.heap.size ip4z rfl rfl 26 ip4z HN.out (by kernel_rfl) rfl ip4z_one ?_))
          change Code.wp _ _ _ _ ((w5.alloc (.cells ip4z 26)).setRow w5.heap.size ip4z)
          generalize (w5.alloc (.cells ip4z 26)).setRow w5.heap.size ip4z = w6 at *
          go_wp2_with (first
            | (go_at_call 6; refine (KN.out _).mono ?_; rintro e w7 ⟨rfl, hb7⟩))
          go_ret
          exact ⟨rfl, HB6.out.trans (hb7.mono HB6.out.size)⟩
        · exact absurd h (by decide)
end Go.Proofs.Ytmmmednghdnhnaa
